/- YtnmhcgpnhlhcgaaGreatDoorGg: of the texts Na Nb Nc what is wanted. -/
import Derived.Test.YtnmhcgpnhlhcgaaGreatDoorG0
import Derived.Test.YtnmhcgpnhlhcgaaGreatDoorGb
import Derived.Test.YtnmhcgpnhlhcgaaGreatDoorGz
import Derived.Deep.RegionHeld3
import Derived.Maps.AppendAt
import Derived.OrdersHeld
import Derived.Carry
import Derived.Test.YtnmhcgpnhlhcgaaGreatDoorGa
import Derived.RangeFuncNested
import Derived.RangeFuncBound
import Derived.RangeFuncCalls
import Derived.RangeFuncLeaves
import Derived.RangeFuncBox
import Derived.Shelf.Abstract
import Derived.Shelf.RegionOpen
import Derived.WalkKit
import Derived.OwnWalkIn
import Derived.TacticsInMore
import Derived.LoopNIn
import Derived.LoopIn
import Derived.Scope
import Derived.ControlIn
import Derived.ProofKit
import Derived.OpenShut
import Derived.RowKit3
import Derived.Laws.IdiomArrays
import Derived.WideShapes
import Derived.ChangeOld
import Derived.Deep.Strs
import Derived.Deep.Slices
set_option maxHeartbeats 16000000
set_option maxRecDepth 100000
set_option linter.unusedVariables false
set_option linter.unusedSimpArgs false
namespace Go.Proofs.YtnmhcgpnhlhcgaaGreatDoor
open Go.RowKit Go.Lib
attribute [local go_sem ↓] Go.wp_at_zero Go.wp_at_succ
structure Hd where
 sb:Nat
 qb:Nat
 gq:Nat
 hb:Nat
 gh:Nat
 turn:Nat
 M:List En
def Hd.own (h:Hd) (k:Nat):Prop:=OwnS h.sb h.qb h.gq h.hb h.gh k
def Hd.is (h:Hd) (w:World) (n most:Nat):Prop:=IsS w h.sb h.qb h.gq h.hb h.gh n most h.turn h.M
def ptrs (H:List Hd):List Value:=H.map (fun h=>vPt h.sb)
structure Sets (w:World) (lo n:Nat) (mo:Nat→Nat) (H:List Hd):Prop where
 it: ∀(i:Nat) (h:Hd),H[i]? =some h→h.is w n (mo i)
 low: ∀(i:Nat) (h:Hd),H[i]? =some h→ ∀k,h.own k→lo≤k
 apart: ∀(i j:Nat) (h h':Hd),H[i]? =some h→H[j]? =some h'→i≠j→ ∀k,h.own k→ ¬h'.own k
section
variable {w w':World} {lo n:Nat} {mo:Nat→Nat} {H:List Hd}
theorem Hd.is.blocks {h:Hd} {most:Nat} (q:h.is w n most): ∀k,h.own k→k<w.heap.size:=IsS.blocks q
theorem Sets.nil (w:World) (lo n:Nat) (mo:Nat→Nat):Sets w lo n mo []:=⟨by simp,by simp,by simp⟩
theorem Sets.below (h:Sets w lo n mo H) (hb:vBw w w'):Sets w' lo n mo H:=⟨fun i x hx=>IsS.below (h.it i x hx) hb,h.low,h.apart⟩
theorem Sets.frame {S:Nat→Prop} (h:Sets w lo n mo H) (hf:Fr S w w') (hn: ∀(i:Nat) (x:Hd),H[i]? =some x→ ∀k,x.own k→ ¬S k):Sets w' lo n mo H:=⟨fun i x hx=>IsS.frame (h.it i x hx) hf (hn i x hx),h.low,h.apart⟩
theorem Sets.snoc (h:Sets w lo n mo H) {x:Hd} (hx:x.is w n (mo H.length)) (h1: ∀k,x.own k→lo≤k) (h2: ∀(i:Nat) (y:Hd),H[i]? =some y→ ∀k,y.own k→ ¬x.own k):Sets w lo n mo (H++[x]):=by
 have key: ∀i y,(H++[x])[i]? =some y→H[i]? =some y∨(i=H.length∧y=x):=by
  grind
 refine⟨fun i y hy=> ?_,fun i y hy=> ?_,fun i j y z hy hz hne=> ?_⟩
 ·rcases key i y hy with q|⟨rfl,rfl⟩
  ·exact h.it i y q
  ·exact hx
 ·rcases key i y hy with q|⟨rfl,rfl⟩
  ·exact h.low i y q
  omega
 ·rcases key i y hy with q|⟨rfl,rfl⟩
  ·rcases key j z hz with q'|⟨rfl,rfl⟩
   ·exact h.apart i j y z q q' hne
   grind
  grind
theorem Sets.set (h:Sets w lo n mo H) {i:Nat} {x y:Hd} (hx:H[i]? =some x) (hf:Fr x.own w w') (hy:y.is w' n (mo i)) (he: ∀k,y.own k↔x.own k):Sets w' lo n mo (H.set i y):=by
 have hi:i<H.length:=(List.getElem?_eq_some_iff.1 hx).1
 have key: ∀j z,(H.set i y)[j]? =some z→(j=i∧z=y)∨(j≠i∧H[j]? =some z):=by
  grind
 refine⟨fun j z hz=> ?_,fun j z hz k hk=> ?_,fun j l z z' hz hz' hne k hk=> ?_⟩
 ·rcases key j z hz with ⟨rfl,rfl⟩|⟨q,q'⟩
  ·exact hy
  ·exact IsS.frame (h.it j z q') hf (h.apart j i z x q' hx q)
 ·rcases key j z hz with ⟨rfl,rfl⟩|⟨q,q'⟩
  ·exact h.low j x hx k ((he k).1 hk)
  ·exact h.low j z q' k hk
 ·rcases key j z hz with ⟨rfl,rfl⟩|⟨q,q'⟩
  ·rcases key l z' hz' with ⟨rfl,rfl⟩|⟨r,r'⟩
   ·omega
   ·exact h.apart j l x z' hx r' hne k ((he k).1 hk)
  ·rcases key l z' hz' with ⟨rfl,rfl⟩|⟨r,r'⟩
   ·exact fun q2=>h.apart j l z x q' hx hne k hk ((he k).1 q2)
   ·exact h.apart j l z z' q' r' hne k hk
end
structure Bld (w0 wr:World) (n:Nat) (mo:Nat→Nat) (v:Value) (H:List Hd):Prop where
 blk:wr.heap[w0.heap.size+1]? =some (.cells #[v,.map (some w0.heap.size),vI6 (n:Int)] 168 (0,0))
 row:wr.ownsRow (w0.heap.size+2) 169 1 v H.length (ptrs H)
 sets:Sets wr (w0.heap.size+2) n mo H
 fresh: ∀(i:Nat) (h:Hd),H[i]? =some h→h.M=[]∧h.turn=0
 map:IsM wr w0.heap.size (fun _=>none) 0
 sep: ∀(i:Nat) (h:Hd),H[i]? =some h→ ∀k,h.own k→v.ownBlock≠some k
 bel:vBw w0 wr
 big:w0.heap.size+2≤wr.heap.size
theorem Dc.own_ge {w:World} {base:Nat} {e:TypeId} {size:Nat} {v:Value} {n:Nat} {xs:List Value} (h:w.ownsRow base e size v n xs): ∀k,v.ownBlock=some k→base≤k∧k<w.heap.size:=by
 intro k hk
 rcases h.2 with ⟨rfl,_⟩|⟨g,cap,cur,rfl,hb,hg,_⟩
 ·simp[Value.ownBlock] at hk
 ·simp[Value.ownBlock] at hk
  grind
section
variable {w0 wr w1 w3:World} {n:Nat} {mo:Nat→Nat} {v v':Value} {H:List Hd} {x:Hd}
theorem Bld.cell (h:Bld w0 wr n mo v H) {W:World} (hW:vBw wr W):W.cell? (vA0 (w0.heap.size+1))=some v:=by
 rw[hW.cell (p:=(vA0 (w0.heap.size+1))) (by have:=h.big;grind)]
 unfold World.cell?
 simp only[h.blk]
 rfl
theorem Bld.rowB (h:Bld w0 wr n mo v H) {W:World} (hW:vBw wr W):W.ownsRow (w0.heap.size+2) 169 1 v H.length (ptrs H):=
 owns_fr h.row (Fr.of_below' (S:=fun _=>False) hW) (fun _ _ _ q=>q)
theorem Bld.step (h:Bld w0 wr n mo v H) (hx:x.is w1 n (mo H.length)) (hx0:x.M=[]∧x.turn=0) (ho: ∀k,x.own k→wr.heap.size≤k) (hb:vBw wr w1)
  (o:Obj) (hr:w3.ownsRow (w0.heap.size+2) 169 1 v' (H.length+1) (ptrs H++[vPt x.sb])) (hg:(w1.alloc o).grownBy w3 v.ownBlock) (hat:v'.ownBlock=v.ownBlock∨v'.ownBlock=some (w1.alloc o).heap.size):
  w3.cell? (vA0 (w0.heap.size+1))=some v∧w3.frozen? (vA0 (w0.heap.size+1))=false∧Bld w0 (w3.setCell (vA0 (w0.heap.size+1)) v') n mo v' (H++[x]):=by
 have hbig:=h.big
 have hbs:=hb.size
 have hz:(w1.alloc o).heap.size=w1.heap.size+1:=by simp
 have hvb:=Dc.own_ge h.row
 have hxs:=hx.blocks
 have hf1:Fr (fun k=>some k=v.ownBlock) wr (w1.alloc o):=Fr.of_below' (hb.alloc hbs o)
 have hf2:Fr (fun k=>some k=v.ownBlock) (w1.alloc o) w3:=⟨hg.os,hg.tape,hg.output,hg.size,hg.block⟩
 have hf3:=hf1.trans hf2
 have hpn: ¬(some (w0.heap.size+1)=v.ownBlock):=fun e=>by grind
 have hmn: ¬(some w0.heap.size=v.ownBlock):=fun e=>by grind
 have hblk:w3.heap[w0.heap.size+1]? =some (.cells #[v,.map (some w0.heap.size),vI6 (n:Int)] 168 (0,0)):=by
  rw[hf3.block _ (by omega) hpn];exact h.blk
 have hv'ge:=Dc.own_ge hr
 have hv'pb:v'.ownBlock≠some (w0.heap.size+1):=fun e=>by grind
 have hf4:Fr (fun k=>some k=v.ownBlock∨k=w0.heap.size+1) wr (w3.setCell (vA0 (w0.heap.size+1)) v'):=(hf3.wide (fun k _ q=> .inl q)).setCell (a:=(vA0 (w0.heap.size+1))) (.inr rfl) _
 have hx3:Fr (fun k=>some k=v.ownBlock∨k=w0.heap.size+1) w1 (w3.setCell (vA0 (w0.heap.size+1)) v'):=((((Fr.refl _ _).alloc o).trans hf2).wide (fun k _ q=> .inl q)).setCell (a:=(vA0 (w0.heap.size+1))) (.inr rfl) _
 refine⟨by unfold World.cell?;grind,by unfold World.frozen?;grind,?_⟩
 refine⟨Go.Joins.block_setCell hblk v',?_,?_,?_,?_,?_,?_,?_⟩
 ·rw[List.length_append]
  have e:ptrs (H++[x])=ptrs H++[vPt x.sb]:=by unfold ptrs;simp
  rw[e]
  exact ownsRow_setCell_other hr hv'pb v'
 ·refine Sets.snoc (h.sets.frame hf4 ?_) (IsS.frame hx hx3 ?_) (fun k hk=>by grind) ?_
  ·rintro i y hy k hk (q|q)
   ·exact h.sep i y hy k hk q.symm
   ·have:=h.sets.low i y hy k hk;omega
  ·rintro k hk (q|q)
   ·have:=(hvb k q.symm).2;have:=ho k hk;omega
   ·have:=ho k hk;omega
  ·intro i y hy k hk hk'
   have:=(h.sets.it i y hy).blocks k hk
   grind
 ·intro i y hy
  rcases Nat.lt_or_ge i H.length with q|q
  ·rw[List.getElem?_append_left q] at hy
   exact h.fresh i y hy
  grind
 ·exact h.map.block (hf4.block _ (by omega) (by grind))
 ·intro i y hy k hk e
  have hkl:k<w1.heap.size:=by
   rcases Nat.lt_or_ge i H.length with q|q
   ·rw[List.getElem?_append_left q] at hy
    have:=(h.sets.it i y hy).blocks k hk
    omega
   grind
  rcases hat with q|q
  ·rw[q] at e
   rcases Nat.lt_or_ge i H.length with r|r
   ·rw[List.getElem?_append_left r] at hy
    exact h.sep i y hy k hk e
   grind
  grind
 ·exact h.bel.trans (hf4.below (by omega) (by
   grind))
 ·have:=hf4.size
  omega
end
theorem info_partsP {P:Program} {e:TypeId} {z:Value} {n m:Nat} (h:(P.info? e).map (fun i=>(i.zero,i.size,i.bytes))=some (some z,n,m)): ∃i,P.info? e=some i∧i.zero=some z∧i.size=n∧i.bytes=m:=by
 simp_all
theorem infoSetP:(Tryz.prog.info? 169).map (fun i=>(i.zero,i.size,i.bytes))=some (some (.pointer none),1,8):=by rfl
theorem step_append_at {P:Program} (w:World) {ops:Array Oper} {o:Oper} {a:Act} {K:Act→World→Prop} {Q:Exit→Act→World→Prop} {E:Prop} (hgd:o.guard=none) (s x:Operand) (t:TypeId)
  (ho:o.op= .call {callee:= .builtin .append,args:= #[s,x],argTypes:= #[t,t]})
  (base:Nat) (e:TypeId) (i:TypeInfo) (z:Value) (size bytes:Nat) (ht:P.underlying t=some (.slice e)) (hi:P.info? e=some i) (hz:i.zero=some z)
  (hsize:i.size=size) (hby:i.bytes=bytes) (hzs:z.cells.size=size) (hsz:0<size)
  (v:Value) (n:Nat) (xs:List Value) (hs:a.eval s=v) (hown:w.ownsRow base e size v n xs)
  (ad:Addr) (m c:Nat) (news:List Value) (hx:a.eval x= .slice (some ad) m c) (hl:news.length=m*size) (hnews: ∀j u,news[j]? =some u→w.cell? (ad.add j)=some u) (h1: ∀u∈news,u.oneCell'=true)
  (h63:n+m≤maxLen) (hbytes:(n+m)*bytes≤140737488355328) (hbase:base≤w.heap.size)
  (h: ∀v' w',w'.ownsRow base e size v' (n+m) (xs++news)→w.grownBy w' v.ownBlock→(v'.ownBlock=v.ownBlock∨v'.ownBlock=some w.heap.size)→K (a.put o.dst v') w'):
  if Region.wanted o (yielded ops a.tmps)=true then Oper.wp P o a w K Q else E:=by
 have hw:Region.wanted o (yielded ops a.tmps)=true:=by simp[Region.wanted,hgd]
 rw[if_pos hw]
 obtain⟨v',w',hr,h2,h3,h4,h5⟩:=run_append_own_at (P:=P) w base t o.type e i z size bytes ht hi hz hsize hby hzs hsz v n xs hown ad m c news hl hnews h1 h63 hbytes hbase
 unfold Oper.wp execOp
 simp only[ho,resolve,invoke,builtin,Sem.run_bind,Sem.run_pure,Result.andThen_ok,List.map_toArray,List.map_cons,List.map_nil,hs,hx,hr]
 exact h v' w' h2 h3 h5
theorem below_pre' {B:Nat} {w0 w w':World} (h:Below B w w') (a:w.heap=w0.heap) (b:w.os=w0.os) (c:w.tape=w0.tape) (d:w.output=w0.output):Below B w0 w':=
 ⟨h.os.trans b,h.tape.trans c,h.output.trans d,by rw[←a];exact h.size,fun k hk=>(h.block k hk).trans (by rw[a])⟩
def After (w0 wr:World) (n:Nat) (mo:Nat→Nat) (a:Option Addr) (c:Nat) (H:List Hd) (most:Nat):Prop:=
 ∀(w1:World) (x:Hd),x.is w1 n most→x.M=[]∧x.turn=0→(∀k,x.own k→wr.heap.size≤k)→vBw wr w1→
  w1.cell? (vA0 (w0.heap.size+1))=some (.slice a H.length c)∧(∀o,(w1.alloc o).cell? (vA0 (w0.heap.size+1))=some (.slice a H.length c))∧
  Hid (∀W:World,W.heap=(w1.alloc (.cells #[vPt x.sb] 169)).heap→W.ownsRow (w0.heap.size+2) 169 1 (.slice a H.length c) H.length (ptrs H))∧
  Hid (∀W:World,W.heap=(w1.alloc (.cells #[vPt x.sb] 169)).heap→w0.heap.size+2≤W.heap.size)∧
  Hid (∀(W w3:World) (v':Value),W=w1.alloc (.cells #[vPt x.sb] 169)→w3.ownsRow (w0.heap.size+2) 169 1 v' (H.length+1) (ptrs H++[vPt x.sb])→W.grownBy w3 (Value.ownBlock (.slice a H.length c))→(v'.ownBlock=Value.ownBlock (.slice a H.length c)∨v'.ownBlock=some W.heap.size)→
   w3.cell? (vA0 (w0.heap.size+1))=some (.slice a H.length c)∧w3.frozen? (vA0 (w0.heap.size+1))=false∧Bld w0 (w3.setCell (vA0 (w0.heap.size+1)) v') n mo v' (H++[x]))
theorem Bld.after {w0 wr:World} {n:Nat} {mo:Nat→Nat} {a:Option Addr} {c:Nat} {H:List Hd} (h:Bld w0 wr n mo (.slice a H.length c) H) (most:Nat) (hm:mo H.length=most):After w0 wr n mo a c H most:=by
 intro w1 x hx hx0 ho hb
 have hba:=fun o=>hb.alloc hb.size o
 refine⟨h.cell hb,fun o=>h.cell (hba o),fun W hW=> ?_,fun W hW=> ?_,fun W w3 v' hW hr hg hat=> ?_⟩
 ·have:=h.rowB (hba (.cells #[vPt x.sb] 169))
  refine⟨this.1,?_⟩
  rcases this.2 with q|⟨g,cap,cur,e,e1,e2,e3⟩
  ·grind
  ·exact .inr ⟨g,cap,cur,e,e1,by grind,e3⟩
 ·rw[hW]
  have:=h.big
  have:=(hba (.cells #[vPt x.sb] 169)).size
  omega
 ·subst hW
  exact h.step (by rw[hm];exact hx) hx0 ho hb _ hr hg hat
def moP (np n q:Nat):Nat→Nat:=fun i=>if i<np then min q n else n
theorem pnew_ok (np n q : Nat) (w : World) (h1 : 1 ≤ np) (h2 : np ≤ 64) (h3 : 1 ≤ n) (h4 : n ≤ 1024) (h5 : 1 ≤ q) (h6 : q ≤ 256) :
  vCa 36 #[vI6 np, vI6 n, vI6 q] w fun e w' => ∃ v H, e = .returned (vPt (w.heap.size + 1)) ∧ H.length = np + 1 ∧ Bld w w' n (moP np n q) v H := by
 obtain ⟨i0, hi0, hz0, hz1, hz2⟩ := info_partsP infoSetP
 have hmm := @run_makeMap Tryz.prog
 have e1 : ¬ (np : Int) < 1 := by omega
 have e2 : ¬ (64 : Int) < (np : Int) := by omega
 have e3 : ¬ (n : Int) < 1 := by omega
 have e4 : ¬ (1024 : Int) < (n : Int) := by omega
 have e5 : ¬ (q : Int) < 1 := by omega
 have e6 : ¬ (256 : Int) < (q : Int) := by omega
 have HB0 : Hid (Bld w ((w.alloc (.map #[] 0)).alloc (.cells #[.slice none 0 0, .map (some w.heap.size), vI6 (n : Int)] 168)) n (moP np n q) (.slice none 0 0) []) := by
  have hz : (w.alloc (.map #[] 0)).heap.size = w.heap.size + 1 := by simp
  refine ⟨?_, World.ownsRow_nil _ _ _ _, Sets.nil _ _ _ _, by simp, ?_, by simp, bzA.alloc (by simp) _, by simp⟩
  ·rw [← hz]; exact heap_alloc_new _ _
  ·exact (IsM.made w).block (Below.heap_alloc _ _ _ (by simp))
 refine ge ?_
 go_wp2
 go_loopw [35] (fun i wr => ∃ (j : Nat) (v : Value) (H : List Hd), j ≤ np ∧ H.length = j ∧ i = vI6 j ∧ Bld w wr n (moP np n q) v H) (fun i _ => np - (intOf i).toNat)
 case atStart => exact ⟨0, _, _, by omega, rfl, rfl, HB0.out⟩
 case round =>
  obtain ⟨j, v, H, hj, hH, rfl, hB⟩ := hrel
  obtain ⟨a, c, rfl⟩ := Dc.owns_slice hB.row
  by_cases hjl : j < np
  ·have hjl' : (j : Int) < (np : Int) := by omega
   have c0 := hB.cell bzR
   have HNEW : Hid (∀ W, vCa 69 #[vI6 n, vI6 (if n < q then (n : Int) else (q : Int))] W fun e w' => ∃ sb qb gq hb gh, e = .returned (vPt sb) ∧ (∀ k, OwnS sb qb gq hb gh k → W.heap.size ≤ k) ∧ IsS w' sb qb gq hb gh n (min q n) 0 [] ∧ vBw W w') := fun W => by
    have e : (if n < q then (n : Int) else (q : Int)) = ((min q n : Nat) : Int) := by omega
    rw [e]
    exact new_isS n (min q n) W h3 h4 (by omega) (by omega)
   have HAF := veil (hB.after (min q n) (by unfold moP; grind))
   have HHj := veil hH
   have hl64 : H.length ≤ 64 := by omega
   clear hB hH
   go_wp2
   refine wp_region_held_drew (S := (fun _ => True)) (by rfl) ?_ (fun hHeld => ?_)
   ·trivial
   refine st ?_
   repeat' first
    | refine dn ?_
    | refine tk ?_
    | refine rd ?_
    | exact opZ
    | refine opN ?_
    | refine opS ?_ ?_
    | (refine opY 9 (fun K hK => ?_)
       go_simp
       go_at_call 69
       refine (HNEW.out _).mono ?_
       rintro e w1 ⟨sb, qb, gq, hb, gh, rfl, ho, hq, hb1⟩
       obtain ⟨k1, k2, HROW, HSZ, HST⟩ := HAF.out w1 ⟨sb, qb, gq, hb, gh, 0, []⟩ hq ⟨rfl, rfl⟩ ho (by exact below_pre' hb1 rfl rfl rfl rfl)
       clear ho hq hb1
       refine hK.out _ _ ?_ (fun hHeld => ?_)
       ·trivial
       clear hK K
       try simp only [puX])
    | (refine opY 11 (fun K hK => ?_)
       refine step_append_at _ (by rfl) _ _ _ (by rfl) (w.heap.size + 2) 169 i0 (.pointer none) 1 8 Tryz.underlying166 hi0 hz0 hz1 hz2 rfl (by omega) (.slice a H.length c) H.length (ptrs H) (by rfl) (by exact HROW.out _ rfl) (vA0 w1.heap.size) 1 1 [vPt sb] (by rfl) rfl (by exact cell_one_new _ _ _) (by intro u hu; simp at hu; rw [hu]; rfl) (by unfold maxLen; omega) (by omega) (by exact HSZ.out _ rfl) ?_
       intro v' w3 hr3 hg3 hat3
       obtain ⟨z1, z2, z3⟩ := HST.out _ w3 v' rfl hr3 hg3 hat3
       have HX := veil z3
       obtain ⟨a', c', rfl⟩ := Dc.owns_slice hr3
       clear z3 hr3 hg3 hat3
       refine hK.out _ _ ?_ (fun hHeld => ?_)
       ·trivial
       clear hK K
       try simp only [puX])
    | (refine opY _ (fun K hK => ?_)
       go_simp
       refine hK.out _ _ ?_ (fun hHeld => ?_)
       ·trivial
       clear hK K
       try simp only [puX])
   all_goals
    refine ⟨?_⟩
    go_wp2
    go_roundw
    case rel => exact ⟨j + 1, _, _, by omega, by have := HHj.out; grind, by go_num, HX.out⟩
    case measure => simp [intOf]; omega
  ·have hjl' : ¬ (j : Int) < (np : Int) := by omega
   have c0 := hB.cell bzR
   have HNEW := veil (fun W => new_isS n n W h3 h4 (by omega) (by omega))
   have HAF := veil (hB.after n (by unfold moP; grind))
   have HHj := veil hH
   have hl64 : H.length ≤ 64 := by omega
   clear hB hH
   go_wp2
   refine wp_region_held_drew (S := (fun _ => True)) (by rfl) ?_ (fun hHeld => ?_)
   ·trivial
   refine st ?_
   repeat' first
    | refine dn ?_
    | refine tk ?_
    | refine rd ?_
    | exact opZ
    | refine opN ?_
    | refine opS ?_ ?_
    | (refine opY 7 (fun K hK => ?_)
       go_simp
       go_at_call 69
       refine (HNEW.out _).mono ?_
       rintro e w1 ⟨sb, qb, gq, hb, gh, rfl, ho, hq, hb1⟩
       obtain ⟨k1, k2, HROW, HSZ, HST⟩ := HAF.out w1 ⟨sb, qb, gq, hb, gh, 0, []⟩ hq ⟨rfl, rfl⟩ ho (by exact below_pre' hb1 rfl rfl rfl rfl)
       clear ho hq hb1
       refine hK.out _ _ ?_ (fun hHeld => ?_)
       ·trivial
       clear hK K
       try simp only [puX])
    | (refine opY 9 (fun K hK => ?_)
       refine step_append_at _ (by rfl) _ _ _ (by rfl) (w.heap.size + 2) 169 i0 (.pointer none) 1 8 Tryz.underlying166 hi0 hz0 hz1 hz2 rfl (by omega) (.slice a H.length c) H.length (ptrs H) (by rfl) (by exact HROW.out _ rfl) (vA0 w1.heap.size) 1 1 [vPt sb] (by rfl) rfl (by exact cell_one_new _ _ _) (by intro u hu; simp at hu; rw [hu]; rfl) (by unfold maxLen; omega) (by omega) (by exact HSZ.out _ rfl) ?_
       intro v' w3 hr3 hg3 hat3
       obtain ⟨z1, z2, z3⟩ := HST.out _ w3 v' rfl hr3 hg3 hat3
       have HX := veil z3
       obtain ⟨a', c', rfl⟩ := Dc.owns_slice hr3
       clear z3 hr3 hg3 hat3
       refine hK.out _ _ ?_ (fun hHeld => ?_)
       ·trivial
       clear hK K
       try simp only [puX])
    | (refine opY _ (fun K hK => ?_)
       go_simp
       refine hK.out _ _ ?_ (fun hHeld => ?_)
       ·trivial
       clear hK K
       try simp only [puX])
   all_goals
    refine ⟨?_⟩
    go_wp2
    go_ret
    first | exact ⟨_, _, rfl, (by have := HHj.out; simp; omega), HX.out⟩ | exact ⟨_, rfl, _, _, rfl, (by have := HHj.out; simp; omega), HX.out⟩ | exact ⟨rfl, _, _, (by have := HHj.out; grind), HX.out⟩ | exact ⟨_, _, (by have := HHj.out; simp; omega), HX.out⟩ | exact ⟨_, rfl, _, (by have := HHj.out; simp; omega), HX.out⟩
def whereF (n:Nat):List Hd→Int→Int→Option Int
 |[],_,_=>none
 |h::H,i,id=>if ((if 0≤id∧id<(n:Int) then keyOf h.M id.toNat else none:Option Ke.K)).isSome then some i else whereF n H (i+1) id
def sumH (H:List Hd):Nat:=(H.map (fun h=>h.M.length)).sum
structure IsP (w:World) (base lo pb mb n np q:Nat) (v:Value) (H:List Hd):Prop where
 n1:1≤n∧n≤1024
 np1:1≤np∧np≤64
 q1:1≤q∧q≤256
 blk:w.heap[pb]? =some (.cells #[v,.map (some mb),vI6 (n:Int)] 168 (0,0))
 row:w.ownsRow base 169 1 v H.length (ptrs H)
 len:H.length=np+1
 sets:Sets w lo n (moP np n q) H
 map:IsM w mb (whereF n H 0) (sumH H)
 sep: ∀(i:Nat) (h:Hd),H[i]? =some h→ ∀k,h.own k→v.ownBlock≠some k∧k≠pb∧k≠mb
 ne:pb≠mb∧v.ownBlock≠some pb∧v.ownBlock≠some mb
section
variable {w:World} {base lo pb mb n np q:Nat} {v:Value} {H:List Hd}
theorem IsP.c0 (h:IsP w base lo pb mb n np q v H):w.cell? (vA0 pb)=some v:=by unfold World.cell?;simp only[h.blk];rfl
theorem IsP.c1 (h:IsP w base lo pb mb n np q v H):w.cell? (vAt pb 1)=some (.map (some mb)):=by unfold World.cell?;simp only[h.blk];rfl
theorem IsP.c2 (h:IsP w base lo pb mb n np q v H):w.cell? (vAt pb 2)=some (vI6 (n:Int)):=by unfold World.cell?;simp only[h.blk];rfl
theorem wrap_np (np:Nat) (h:np≤64):IntKind.i64.wrap (((np+1:Nat):Int)-1)=(np:Int):=by
 simp[IntKind.wrap,IntKind.bits,IntKind.signed]
 omega
theorem pshared_ok (h:IsP w base lo pb mb n np q v H):
  vS 149 #[vPt pb] w (vI6 (np:Int)):=by
 obtain⟨a,c,rfl⟩:=Dc.owns_slice h.row
 have c0:=h.c0
 rw[h.len] at c0
 have hnp:=h.np1
 have hw:=wrap_np np hnp.2
 clear h
 refine ge ?_
 go_wp2
 go_ret
 simp
theorem plen_ok (h:IsP w base lo pb mb n np q v H):
  vS 156 #[vPt pb] w (vI6 (sumH H:Int)):=by
 have c1:=h.c1
 have hl:=h.map.len
 clear h
 refine ge ?_
 go_wp2
 go_ret
 simp
theorem phas_ok (h:IsP w base lo pb mb n np q v H) (p:Int):
  vS 147 #[vPt pb,vI6 p] w (.bool (decide (0≤p∧p<(np:Int)))):=by
 have HS:=veil (pshared_ok h)
 clear h
 by_cases h0:0≤p
 ·by_cases h1:p<(np:Int)
  ·have e:decide (0≤p∧p<(np:Int))=true:=decide_eq_true ⟨h0,h1⟩
   rw[e]
   refine ge ?_
   go_wp2_with (go_at_call 149;refine cS HS.out ?_)
   go_ret
   simp
  ·have e:decide (0≤p∧p<(np:Int))=false:=decide_eq_false (fun q=>h1 q.2)
   rw[e]
   refine ge ?_
   go_wp2_with (go_at_call 149;refine cS HS.out ?_)
   go_ret
   simp_all
 ·have e:decide (0≤p∧p<(np:Int))=false:=decide_eq_false (fun q=>h0 q.1)
  rw[e]
  have h0':p<0:=by omega
  refine ge ?_
  go_wp2
  go_ret
  simp
end
section
variable {w:World} {base lo pb mb n np q:Nat} {v:Value} {H:List Hd}
theorem IsP.rows (h:IsP w base lo pb mb n np q v H): ∃g cap,v= .slice (some (vA0 g)) (np+1) cap∧base≤g∧g<w.heap.size∧ ∀(i:Nat) (x:Hd),H[i]? =some x→w.cell? (vAt g i)=some (vPt x.sb):=by
 have hl:=h.len
 obtain⟨g,cap,e,h1,h2⟩:=World.ownsRow.form h.row (by omega)
 have e':=e
 rw[hl] at e'
 refine⟨g,cap,e',h1,h2,fun i x hx=> ?_⟩
 have hi:i<H.length:=(List.getElem?_eq_some_iff.1 hx).1
 have hr:=h.row
 rw[e] at hr
 rw[World.ownsRow.cellAt hr i (by omega)]
 unfold ptrs
 grind
theorem pset_at (h:IsP w base lo pb mb n np q v H) (id:Int) (hi:(Lit.int .i64 id).wf=true) (i:Nat) (x:Hd) (hx:H[i]? =some x) (hw:whereF n H 0 id=some (i:Int)):
  vS 134 #[vPt pb,vI6 id] w (vPt x.sb):=by
 have c1:=h.c1
 have hl:=h.map.look id hi
 rw[hw] at hl
 simp only[Option.getD_some,Option.isSome_some] at hl
 obtain⟨g,cap,e,_,_,hc⟩:=h.rows
 have c0:=h.c0
 rw[e] at c0
 have hc':=hc i x hx
 have hil:i<np+1:=by have:=(List.getElem?_eq_some_iff.1 hx).1;have:=h.len;omega
 have hnp:=h.np1
 clear h hc hw hx
 refine ge ?_
 go_wp2
 go_ret
 simp
theorem pshared_c (W:World) (pb np:Nat) (a:Option Addr) (c:Nat) (hnp:np≤64) (c0:W.cell? (vA0 pb)=some (.slice a (np+1) c)):
  vS 149 #[vPt pb] W (vI6 (np:Int)):=by
 have hw:=wrap_np np hnp
 refine ge ?_
 go_wp2
 go_ret
 simp
theorem pset_no (h:IsP w base lo pb mb n np q v H) (id:Int) (hi:(Lit.int .i64 id).wf=true) (x:Hd) (hx:H[np]? =some x) (hw:whereF n H 0 id=none):
  vQ 134 #[vPt pb,vI6 id] w (vPt x.sb):=by
 have c1:=h.c1
 have hl:=h.map.look id hi
 rw[hw] at hl
 simp only[Option.getD_none,Option.isSome_none] at hl
 obtain⟨g,cap,e,_,_,hc⟩:=h.rows
 have c0:=h.c0
 rw[e] at c0
 have hc':=hc np x hx
 have hnp:=h.np1
 have HS:=veil (fun W h0=>pshared_c W pb np (some (vA0 g)) cap hnp.2 h0)
 have C0:=veil c0
 have b0:(0:Int)≤(np:Int):=by omega
 have b1:(np:Int)<(np:Int)+1:=by omega
 have b2:(np:Int)<((np+1:Nat):Int):=by omega
 have b3:np<np+1:=by omega
 have b4: ¬(np:Int)<0:=by omega
 clear h hc hw hx
 refine ge ?_
 go_wp2
 go_region_held3 (fun w'=>w'.cell? (vA0 pb)=some (.slice (some (vA0 g)) (np+1) cap)∧w'.cell? (vAt g np)=some (vPt x.sb))
  (first
   |go_keep)
  (first
   |(go_at_call 149;refine cS (HS.out _ (by grind)) ?_))
 go_wp2
 go_ret
 exact⟨rfl,by first|exact bzR|exact below_drewN bzR _|exact below_drewN bzR 1⟩
end
end Go.Proofs.YtnmhcgpnhlhcgaaGreatDoor
namespace Go.Proofs.YtnmhcgpnhlhcgaaGreatDoor
open Go.RowKit Go.Lib
def Un (H:List Hd):Prop:= ∀(i j:Nat) (x y:Hd) (id:Nat),H[i]? =some x→H[j]? =some y→(keyOf x.M id).isSome→(keyOf y.M id).isSome→i=j
def hasAt (n:Nat) (h:Hd) (id:Int):Bool:=((if 0≤id∧id<(n:Int) then keyOf h.M id.toNat else none:Option Ke.K)).isSome
theorem whereF_cons (n:Nat) (h:Hd) (H:List Hd) (k id:Int):whereF n (h::H) k id=if hasAt n h id=true then some k else whereF n H (k+1) id:=rfl
theorem hasAt_iff {n:Nat} {h:Hd} {id:Int}:hasAt n h id=true↔0≤id∧id<(n:Int)∧(keyOf h.M id.toNat).isSome=true:=by
 unfold hasAt
 grind
theorem whereF_none (n:Nat) (id:Int): ∀(H:List Hd) (k:Int),(∀(i:Nat) (x:Hd),H[i]? =some x→0≤id→keyOf x.M id.toNat=none)→whereF n H k id=none
 |[],_,_=>rfl
 |h::H,k,hn=>by
  rw[whereF_cons,if_neg (fun q=>by
   have q:=hasAt_iff.1 q
   rw[hn 0 h rfl q.1] at q
   grind)]
  exact whereF_none n id H (k+1) (fun i x hx=>hn (i+1) x (by grind))
theorem whereF_inv (n:Nat) (id:Int): ∀(H:List Hd) (k c:Int),whereF n H k id=some c→ ∃(i:Nat) (x:Hd),H[i]? =some x∧c=k+(i:Int)∧0≤id∧id<(n:Int)∧(keyOf x.M id.toNat).isSome
 |[],_,_,h=>by cases h
 |h::H,k,c,hc=>by
  rw[whereF_cons] at hc
  by_cases q:hasAt n h id=true
  ·rw[if_pos q] at hc
   injection hc with hc
   exact⟨0,h,rfl,by simp[hc],hasAt_iff.1 q⟩
  ·rw[if_neg q] at hc
   obtain⟨i,x,h1,h2,h3⟩:=whereF_inv n id H (k+1) c hc
   exact⟨i+1,x,by grind,by omega,h3⟩
theorem whereF_miss {n:Nat} {id:Int} {x:Hd}: ∀{H:List Hd} {k:Int} {i:Nat},H[i]? =some x→whereF n H k id=none→hasAt n x id=false
 |[],_,_,h,_=>by simp at h
 |h::H,k,i,hi,hn=>by
  rw[whereF_cons] at hn
  by_cases q:hasAt n h id=true
  ·grind
  ·rw[if_neg q] at hn
   cases i with
   |zero=>
    grind
   |succ i=>exact whereF_miss (i:=i) (by grind) hn
theorem whereF_some (n:Nat) (H:List Hd) (hu:Un H) (i:Nat) (x:Hd) (hx:H[i]? =some x) (id:Nat) (hi:id<n) (hk:(keyOf x.M id).isSome):whereF n H 0 (id:Int)=some (i:Int):=by
 cases hf:whereF n H 0 (id:Int) with
 |some c=>
  obtain⟨j,y,h1,h2,_,_,h5⟩:=whereF_inv n _ H 0 c hf
  have:=hu i j x y id hx h1 hk h5
  grind
 |none=>
  have h1:=whereF_miss hx hf
  have h2:hasAt n x (id:Int)=true:=hasAt_iff.2 ⟨by omega,by omega,hk⟩
  grind
theorem whereF_no {n:Nat} {H:List Hd} {id:Nat} (hw:whereF n H 0 (id:Int)=none) (hi:id<n) {i:Nat} {x:Hd} (hx:H[i]? =some x):keyOf x.M id=none:=by
 have h1:=whereF_miss hx hw
 cases hk:keyOf x.M id with
 |none=>rfl
 |some k=>
  have h2:hasAt n x (id:Int)=true:=hasAt_iff.2 ⟨by omega,by omega,by simp[hk]⟩
  grind
theorem whereF_congr (n:Nat) (id:Int): ∀(H H':List Hd) (k:Int),H.length=H'.length→(∀(i:Nat) (x x':Hd),H[i]? =some x→H'[i]? =some x'→0≤id→(keyOf x.M id.toNat).isSome=(keyOf x'.M id.toNat).isSome)→whereF n H k id=whereF n H' k id
 |[],[],_,_,_=>rfl
 |[],_::_,_,h,_=>by simp at h
 |_::_,[],_,h,_=>by simp at h
 |h::H,h'::H',k,hl,hc=>by
  have e:hasAt n h id=hasAt n h' id:=by
   rw[Bool.eq_iff_iff,hasAt_iff,hasAt_iff]
   constructor
   ·rintro⟨q1,q2,q3⟩;exact⟨q1,q2,by rw[←hc 0 h h' rfl rfl q1];exact q3⟩
   ·rintro⟨q1,q2,q3⟩;exact⟨q1,q2,by rw[hc 0 h h' rfl rfl q1];exact q3⟩
  rw[whereF_cons,whereF_cons,e,whereF_congr n id H H' (k+1) (by grind) (fun i x x' hx hx'=>hc (i+1) x x' (by grind) (by grind))]
theorem set_key {H:List Hd} {i:Nat} {y:Hd} (hi:i<H.length) {j:Nat} {z:Hd} (hz:(H.set i y)[j]? =some z):(j=i∧z=y)∨(j≠i∧H[j]? =some z):=by
 grind
theorem sumH_set: ∀{H:List Hd} {i:Nat} {x y:Hd},H[i]? =some x→sumH (H.set i y)+x.M.length=sumH H+y.M.length
 |[],_,_,_,h=>by simp at h
 |h::H,0,x,y,hx=>by
  simp at hx
  subst hx
  simp[sumH]
  omega
 |h::H,i+1,x,y,hx=>by
  have:=sumH_set (H:=H) (i:=i) (x:=x) (y:=y) (by grind)
  simp only[sumH,List.set_cons_succ,List.map_cons,List.sum_cons] at this⊢
  omega
theorem sumH_le {b:Nat}: ∀{H:List Hd},(∀(i:Nat) (x:Hd),H[i]? =some x→x.M.length≤b)→sumH H≤H.length*b
 |[],_=>by simp[sumH]
 |h::H,hb=>by
  have h1:=hb 0 h rfl
  have:=sumH_le (H:=H) (fun i x hx=>hb (i+1) x (by grind))
  simp only[sumH,List.map_cons,List.sum_cons,List.length_cons,Nat.add_mul,Nat.one_mul] at this⊢
  omega
theorem has_iff {M:List En} {id:Nat}:(keyOf M id).isSome=true↔ ∃y∈M,y.1=id:=by
 cases h:keyOf M id with
 |none=>
  have:=keyOf_none.1 h
  grind
 |some k=>
  simp only[Option.isSome_some,true_iff]
  unfold keyOf at h
  cases hf:M.find? (fun y=>y.1==id) with
  |none=>grind
  |some y=>grind
theorem has_put {M:List En} {id j:Nat} {k:Ke.K}:(keyOf (put (id,k) M) j).isSome=true↔j=id∨(keyOf M j).isSome=true:=by
 rw[has_iff,has_iff]
 constructor
 ·rintro⟨y,hy,rfl⟩
  rcases mem_put.1 hy with rfl|hy
  ·omega
  grind
 ·rintro(rfl|⟨y,hy,rfl⟩)
  ·exact⟨_,mem_put.2 (.inl rfl),rfl⟩
  ·exact⟨y,mem_put.2 (.inr hy),rfl⟩
theorem has_cut {M:List En} {id j:Nat}:(keyOf (cut id M) j).isSome=true↔j≠id∧(keyOf M j).isSome=true:=by
 rw[has_iff,has_iff]
 constructor
 ·rintro⟨y,hy,rfl⟩
  exact⟨(mem_cut.1 hy).2,y,(mem_cut.1 hy).1,rfl⟩
 ·rintro⟨h,y,hy,rfl⟩
  exact⟨y,mem_cut.2 ⟨hy,h⟩,rfl⟩
theorem where_put {n:Nat} {H:List Hd} (hu:Un H) {i:Nat} {x y:Hd} (hx:H[i]? =some x) {id:Nat} (hi:id<n) {k:Ke.K} (hy:y.M=put (id,k) x.M) (hw:whereF n H 0 (id:Int)=none):
  Un (H.set i y)∧whereF n (H.set i y) 0=setF (whereF n H 0) (id:Int) (some (i:Int)):=by
 have hil:i<H.length:=(List.getElem?_eq_some_iff.1 hx).1
 have U:Un (H.set i y):=by
  intro a b s t j hs ht h1 h2
  rcases set_key hil hs with ⟨rfl,rfl⟩|⟨q,q'⟩
  ·rcases set_key hil ht with ⟨rfl,rfl⟩|⟨r,r'⟩
   ·rfl
   ·rw[hy,has_put] at h1
    rcases h1 with rfl|h1
    ·rw[whereF_no hw hi r'] at h2;cases h2
    ·exact hu _ _ x t j hx r' h1 h2
  ·rcases set_key hil ht with ⟨rfl,rfl⟩|⟨r,r'⟩
   ·rw[hy,has_put] at h2
    rcases h2 with rfl|h2
    ·rw[whereF_no hw hi q'] at h1;cases h1
    ·exact hu _ _ s x j q' hx h1 h2
   ·exact hu a b s t j q' r' h1 h2
 refine⟨U,funext fun j=> ?_⟩
 unfold setF
 by_cases e:j=(id:Int)
 ·subst e
  rw[if_pos rfl]
  refine whereF_some n _ U i y (List.getElem?_set_self hil) id hi ?_
  rw[hy,has_put]
  omega
 ·rw[if_neg e]
  refine whereF_congr n j _ _ 0 (by simp) (fun a s t hs ht hj=> ?_)
  rcases set_key hil hs with ⟨rfl,rfl⟩|⟨q,q'⟩
  ·rw[hx] at ht
   injection ht with ht
   subst ht
   rw[Bool.eq_iff_iff,hy,has_put]
   grind
  grind
theorem where_cut {n:Nat} {H:List Hd} (hu:Un H) {i:Nat} {x y:Hd} (hx:H[i]? =some x) {id:Nat} (hy:y.M=cut id x.M) (hw:(keyOf x.M id).isSome=true):
  Un (H.set i y)∧whereF n (H.set i y) 0=setF (whereF n H 0) (id:Int) none:=by
 have hil:i<H.length:=(List.getElem?_eq_some_iff.1 hx).1
 have sub: ∀(a:Nat) (s:Hd) (j:Nat),(H.set i y)[a]? =some s→(keyOf s.M j).isSome=true→ ∃t,H[a]? =some t∧(keyOf t.M j).isSome=true:=by
  intro a s j hs h1
  rcases set_key hil hs with ⟨rfl,rfl⟩|⟨q,q'⟩
  ·rw[hy,has_cut] at h1
   grind
  grind
 have U:Un (H.set i y):=by
  intro a b s t j hs ht h1 h2
  obtain⟨s',p1,p2⟩:=sub a s j hs h1
  obtain⟨t',p3,p4⟩:=sub b t j ht h2
  exact hu a b s' t' j p1 p3 p2 p4
 refine⟨U,funext fun j=> ?_⟩
 unfold setF
 by_cases e:j=(id:Int)
 ·subst e
  rw[if_pos rfl]
  refine whereF_none n _ _ 0 (fun a s hs _=> ?_)
  simp only[Int.toNat_natCast]
  cases hk:keyOf s.M id with
  |none=>rfl
  |some k=>
   exfalso
   rcases set_key hil hs with ⟨rfl,rfl⟩|⟨q,q'⟩
   ·have:=(has_cut (M:=x.M) (id:=id) (j:=id)).1 (by grind)
    omega
   ·exact q (hu a i s x id q' hx (by grind) hw)
 ·rw[if_neg e]
  refine whereF_congr n j _ _ 0 (by simp) (fun a s t hs ht hj=> ?_)
  rcases set_key hil hs with ⟨rfl,rfl⟩|⟨q,q'⟩
  ·rw[hx] at ht
   injection ht with ht
   subst ht
   rw[Bool.eq_iff_iff,hy,has_cut]
   grind
  grind
theorem where_same {n:Nat} {H:List Hd} (hu:Un H) {i:Nat} {x y:Hd} (hx:H[i]? =some x) (hy: ∀id,(keyOf y.M id).isSome=(keyOf x.M id).isSome):
  Un (H.set i y)∧whereF n (H.set i y) 0=whereF n H 0:=by
 have hil:i<H.length:=(List.getElem?_eq_some_iff.1 hx).1
 have sub: ∀(a:Nat) (s:Hd) (j:Nat),(H.set i y)[a]? =some s→ ∃t,H[a]? =some t∧(keyOf t.M j).isSome=(keyOf s.M j).isSome:=by
  grind
 refine⟨fun a b s t j hs ht h1 h2=> ?_,funext fun j=> ?_⟩
 ·obtain⟨s',p1,p2⟩:=sub a s j hs
  obtain⟨t',p3,p4⟩:=sub b t j ht
  exact hu a b s' t' j p1 p3 (p2.trans h1) (p4.trans h2)
 ·refine whereF_congr n j _ _ 0 (by simp) (fun a s t hs ht hj=> ?_)
  grind
def Hd.to (x:Hd) (t:Nat) (M:List En):Hd:={x with turn:=t,M:=M}
theorem Hd.own_to (x:Hd) (t:Nat) (M:List En) (k:Nat):(x.to t M).own k↔x.own k:=Iff.rfl
theorem ptrs_to {H:List Hd} {i:Nat} {x:Hd} (hx:H[i]? =some x) (t:Nat) (M:List En):ptrs (H.set i (x.to t M))=ptrs H:=by
 unfold ptrs
 rw[List.map_set]
 have:((H.map (fun h:Hd=>Value.pointer (some (vA0 h.sb))))).set i (Value.pointer (some (vA0 x.sb)))=H.map (fun h:Hd=>Value.pointer (some (vA0 h.sb))):=by
  apply List.ext_getElem?
  grind
 exact this
theorem owns_at {S:Nat→Prop} {w w':World} {base:Nat} {e:TypeId} {size:Nat} {v:Value} {n:Nat} {xs:List Value} (h:w.ownsRow base e size v n xs) (hf:Fr S w w') (hn: ∀k,v.ownBlock=some k→ ¬S k):w'.ownsRow base e size v n xs:=by
 refine⟨h.1,?_⟩
 rcases h.2 with r|⟨g,cap,cur,rfl,hb,hg,r⟩
 ·grind
 ·refine .inr ⟨g,cap,cur,rfl,hb,?_,r⟩
  rw[hf.block g (Array.getElem?_eq_some_iff.1 hg).1 (hn g rfl)]
  exact hg
structure IsQ (w:World) (base lo pb mb n np q:Nat) (v:Value) (T:Nat) (H:List Hd):Prop where
 p:IsP w base lo pb mb n np q v H
 un:Un H
 tn: ∀(i:Nat) (h:Hd),H[i]? =some h→h.turn≤T
section
variable {w w' wa wb:World} {base lo pb mb n np q T:Nat} {v:Value} {H:List Hd}
theorem IsP.pbl (h:IsP w base lo pb mb n np q v H):pb<w.heap.size:=(Array.getElem?_eq_some_iff.1 h.blk).1
theorem IsP.below (h:IsP w base lo pb mb n np q v H) (hb:vBw w w'):IsP w' base lo pb mb n np q v H:=
 ⟨h.n1,h.np1,h.q1,(hb.block _ h.pbl).trans h.blk,owns_fr h.row (Fr.of_below' (S:=fun _=>False) hb) (fun _ _ _ q=>q),h.len,h.sets.below hb,h.map.block (hb.block _ h.map.lt),h.sep,h.ne⟩
theorem IsQ.below (h:IsQ w base lo pb mb n np q v T H) (hb:vBw w w'):IsQ w' base lo pb mb n np q v T H:=⟨h.p.below hb,h.un,h.tn⟩
def OwnP (pb mb:Nat) (v:Value) (H:List Hd) (k:Nat):Prop:=k=pb∨k=mb∨v.ownBlock=some k∨ ∃(i:Nat) (h:Hd),H[i]? =some h∧h.own k
theorem IsP.blocks (h:IsP w base lo pb mb n np q v H): ∀k,OwnP pb mb v H k→k<w.heap.size:=by
 rintro k (rfl|rfl|e|⟨i,x,hx,hk⟩)
 ·exact h.pbl
 ·exact h.map.lt
 ·exact(Dc.own_ge h.row k e).2
 ·exact(h.sets.it i x hx).blocks k hk
theorem IsP.frame {S:Nat→Prop} (h:IsP w base lo pb mb n np q v H) (hf:Fr S w w') (hn: ∀k,OwnP pb mb v H k→ ¬S k):IsP w' base lo pb mb n np q v H:=
 ⟨h.n1,h.np1,h.q1,(hf.block _ h.pbl (hn _ (.inl rfl))).trans h.blk,owns_at h.row hf (fun k e=>hn k (.inr (.inr (.inl e)))),h.len,h.sets.frame hf (fun i x hx k hk=>hn k (.inr (.inr (.inr ⟨i,x,hx,hk⟩)))),h.map.block (hf.block _ h.map.lt (hn _ (.inr (.inl rfl)))),h.sep,h.ne⟩
theorem IsP.turned (h:IsP w base lo pb mb n np q v H) {i:Nat} {x:Hd} (hx:H[i]? =some x) {t:Nat} {M:List En} (hf:Fr x.own w wa) (hy:(x.to t M).is wa n (moP np n q i)) (hg:Fr (fun k=>k=mb) wa wb)
  (hm:IsM wb mb (whereF n (H.set i (x.to t M)) 0) (sumH (H.set i (x.to t M)))):IsP wb base lo pb mb n np q v (H.set i (x.to t M))∧Fr (fun k=>k=mb∨x.own k) w wb:=by
 have hF:Fr (fun k=>k=mb∨x.own k) w wb:=(hf.wide (fun _ _ q=> .inr q)).trans (hg.wide (fun _ _ q=> .inl q))
 have hil:i<H.length:=(List.getElem?_eq_some_iff.1 hx).1
 have ho:=fun k=>Hd.own_to x t M k
 have hs:=h.sep i x hx
 refine⟨⟨h.n1,h.np1,h.q1,?_,?_,by rw[List.length_set];exact h.len,?_,hm,?_,h.ne⟩,hF⟩
 ·rw[hF.block _ h.pbl (by rintro(e|e);exact h.ne.1 e;grind)]
  exact h.blk
 ·rw[List.length_set,ptrs_to hx]
  refine owns_at h.row hF ?_
  rintro k e (rfl|e')
  ·exact h.ne.2.2 e
  grind
 ·have:=h.sets.set hx hf hy ho
  refine this.frame hg ?_
  intro j z hz k hk e
  subst e
  rcases set_key hil hz with ⟨rfl,rfl⟩|⟨_,r⟩
  ·grind
  ·exact(h.sep j z r _ hk).2.2 rfl
 ·intro j z hz k hk
  rcases set_key hil hz with ⟨rfl,rfl⟩|⟨_,r⟩
  ·grind
  ·exact h.sep j z r _ hk
theorem IsQ.turned (h:IsQ w base lo pb mb n np q v T H) {i:Nat} {x:Hd} (hx:H[i]? =some x) {t:Nat} (ht:t≤x.turn+1) {M:List En} (hf:Fr x.own w wa) (hy:(x.to t M).is wa n (moP np n q i)) (hg:Fr (fun k=>k=mb) wa wb) (hu:Un (H.set i (x.to t M)))
  (hm:IsM wb mb (whereF n (H.set i (x.to t M)) 0) (sumH (H.set i (x.to t M)))):IsQ wb base lo pb mb n np q v (T+1) (H.set i (x.to t M))∧Fr (fun k=>k=mb∨x.own k) w wb:=by
 have hil:i<H.length:=(List.getElem?_eq_some_iff.1 hx).1
 obtain⟨a,b⟩:=h.p.turned hx hf hy hg hm
 refine⟨⟨a,hu,fun j z hz=> ?_⟩,b⟩
 rcases set_key hil hz with ⟨rfl,rfl⟩|⟨_,r⟩
 ·have:=h.tn _ x hx
  show t≤T+1
  omega
 ·have:=h.tn j z r
  omega
theorem IsP.at (h:IsP w base lo pb mb n np q v H) {i:Nat} (hi:i≤np): ∃x,H[i]? =some x:=by
 have:=h.len
 exact⟨H[i]'(by omega),List.getElem?_eq_getElem _⟩
theorem IsP.sum_le (h:IsP w base lo pb mb n np q v H):sumH H≤66560:=by
 have:=sumH_le (H:=H) (b:=1024) (fun i x hx=>by
  have h1:=(h.sets.it i x hx).fit
  have h2:=h.n1
  have:moP np n q i≤n:=by unfold moP;grind
  omega)
 rw[h.len] at this
 have:=h.np1
 omega
theorem IsS.roomy {sb qb gq hb gh most turn:Nat} {M:List En} (h:IsS w sb qb gq hb gh n most turn M) {id:Nat} (hi:id<n) (hk:keyOf M id=none):M.length<n:=by
 have hnd:=h.nd
 have hr: ∀y∈M,y.1<n:=by obtain⟨R,L,hS,hI⟩:=id_S h;exact hI.rng hS
 have hm:=keyOf_none.1 hk
 have:=Bq.nodup_le n (id::M.map (·.1)) (List.nodup_cons.2 ⟨fun q=>by grind,hnd⟩) (by
  grind)
 grind
end
attribute [local go_sem ↓] Go.wp_at_zero Go.wp_at_succ
theorem below_post {B:Nat} {w0 w w':World} (h:Below B w0 w) (a:w'.heap=w.heap) (b:w'.os=w.os) (c:w'.tape=w.tape) (d:w'.output=w.output):Below B w0 w':=
 ⟨b.trans h.os,c.trans h.tape,d.trans h.output,by rw[a];exact h.size,fun k hk=>by rw[a];exact h.block k hk⟩
theorem wf_nat {i:Nat} (h:i≤2048):(Lit.int .i64 (i:Int)).wf=true:=by
 have h1:IntKind.i64.min= -9223372036854775808:=by decide
 have h2:IntKind.i64.max=9223372036854775807:=by decide
 simp[Lit.wf,h1,h2]
 omega
section
variable {w w' wa wb:World} {base lo pb mb n np q T g cap:Nat} {v:Value} {H:List Hd}
theorem IsP.view (h:IsP w base lo pb mb n np q (.slice (some (vA0 g)) (np+1) cap) H):w.cell? (vA0 pb)=some (.slice (some (vA0 g)) (np+1) cap)∧w.cell? (vAt pb 1)=some (.map (some mb))∧w.cell? (vAt pb 2)=some (vI6 (n:Int))∧(∀(i:Nat) (x:Hd),H[i]? =some x→w.cell? (vAt g i)=some (vPt x.sb))∧g<w.heap.size:=by
 refine⟨h.c0,h.c1,h.c2,?_⟩
 obtain⟨g',cap',e,_,h2,h3⟩:=h.rows
 grind
theorem boxP (h:IsQ w base lo pb mb n np q v T H) (k:Ke.K): ∀W,Below (w.heap.size+1) (w.alloc (.cells (vKy k) 120)) W→IsQ W base lo pb mb n np q v T H∧(W.cell? (vA0 w.heap.size)=some (.bool k.e)∧W.cell? (vAt w.heap.size 1)=some (vU6 k.d)∧W.cell? (vAt w.heap.size 2)=some (vU8 k.l))∧w.heap.size+1≤W.heap.size∧vBw w W:=fun W hW=>by
 have hb:vBw w W:=bzA.trans (hW.mono (by omega))
 refine⟨h.below hb,⟨?_,?_,?_⟩,by have:=hW.size;simp_all,hb⟩
 ·rw[hW.cell (p:=(vA0 w.heap.size)) (by simp),cell_new];rfl
 ·rw[hW.cell (p:=(vAt w.heap.size 1)) (by simp),cell_new];rfl
 ·rw[hW.cell (p:=(vAt w.heap.size 2)) (by simp),cell_new];rfl
theorem put_way (h:IsQ w base lo pb mb n np q (.slice (some (vA0 g)) (np+1) cap) T H) (hT:T≤1000000000) {i:Nat} {x:Hd} (hx:H[i]? =some x) (id:Nat) (hi:id<n) (k:Ke.K) (hr:Ke.rightK k=true) (hk:k.ok) (hno:keyOf x.M id=none) (hl:x.M.length<moP np n q i):
  ∀W,Below (w.heap.size+1) (w.alloc (.cells (vKy k) 120)) W→
  vCa 148 #[vPt x.sb,vI6 (id:Int),.agg (vKy k)] W fun e w'=>e= .returned (vI6 0)∧
   (w'.cell? (vA0 pb)=some (.slice (some (vA0 g)) (np+1) cap)∧w'.cell? (vAt g i)=some (vPt x.sb)∧w'.cell? (vA0 w.heap.size)=some (.bool k.e)∧w'.cell? (vAt w.heap.size 1)=some (vU6 k.d)∧w'.cell? (vAt w.heap.size 2)=some (vU8 k.l))∧
   w'.cell? (vAt pb 1)=some (.map (some mb))∧IsM w' mb (whereF n H 0) (sumH H)∧(x.to (x.turn+1) (put (id,k) x.M)).is w' n (moP np n q i)∧Fr x.own w w':=fun W hW=>by
 obtain⟨hQ,⟨k0,k1,k2⟩,hz,hb⟩:=boxP h k W hW
 have hs:=hQ.p.sets.it i x hx
 obtain⟨c0,c1,_,c3,hgl⟩:=hQ.p.view
 have hsp:=hQ.p.sep i x hx
 have hne:=hQ.p.ne
 have hbl:=(h.p.sets.it i x hx).blocks
 refine(put_new hs (by have:=h.tn i x hx;omega) id k hi hr hk hno hl).mono ?_
 rintro e w1 ⟨rfl,h1,hf⟩
 have hf':Fr x.own W w1:=hf
 have nb: ¬x.own w.heap.size:=fun q=>by grind
 have ng: ¬x.own g:=fun q=>(hsp g q).1 rfl
 have npb: ¬x.own pb:=fun q=>(hsp pb q).2.1 rfl
 have nm: ¬x.own mb:=fun q=>(hsp mb q).2.2 rfl
 have hpl:=hQ.p.pbl
 refine⟨rfl,⟨(hf'.cell (a:=(vA0 pb)) hpl npb).trans c0,(hf'.cell (a:=(vAt g i)) hgl ng).trans (c3 i x hx),(hf'.cell (a:=(vA0 w.heap.size)) (by grind) nb).trans k0,(hf'.cell (a:=(vAt w.heap.size 1)) (by grind) nb).trans k1,(hf'.cell (a:=(vAt w.heap.size 2)) (by grind) nb).trans k2⟩,
  (hf'.cell (a:=(vAt pb 1)) hpl npb).trans c1,hQ.p.map.block (hf'.block _ hQ.p.map.lt nm),h1,(Fr.of_below' hb).trans hf'⟩
theorem phasY (h:IsP w base lo pb mb n np q v H) (p:Nat) (hp:p<np):
  vS 147 #[vPt pb,vI6 (p:Int)] w (.bool true):=by
 have:=phas_ok h (p:Int)
 rw[decide_eq_true ⟨by omega,by omega⟩] at this
 exact this
def PutTo (w w':World) (base lo pb mb n np q:Nat) (v:Value) (T:Nat) (H:List Hd) (i:Nat) (x:Hd) (M:List En):Prop:=
 IsQ w' base lo pb mb n np q v (T+1) (H.set i (x.to (x.turn+1) M))∧Fr (fun k=>k=mb∨x.own k) w w'
theorem put_done (h:IsQ w base lo pb mb n np q v T H) {i:Nat} {x:Hd} (hx:H[i]? =some x) {id:Nat} (hi:id<n) {k:Ke.K} (hw:whereF n H 0 (id:Int)=none)
  (hy:(x.to (x.turn+1) (put (id,k) x.M)).is wa n (moP np n q i)) (hf:Fr x.own w wa) (hg:wa.grownBy wb (some mb)) (hm:IsM wb mb (setF (whereF n H 0) (id:Int) (some (i:Int))) (if (whereF n H 0 (id:Int)).isSome then sumH H else sumH H+1)):
  PutTo w wb base lo pb mb n np q v T H i x (put (id,k) x.M):=by
 obtain⟨u1,u2⟩:=where_put (y:=x.to (x.turn+1) (put (id,k) x.M)) h.un hx hi rfl hw
 refine h.turned hx lzr hf hy ⟨hg.os,hg.tape,hg.output,hg.size,fun j hj hn=>hg.block j hj (fun e=>hn (Option.some.inj e))⟩ u1 ?_
 rw[u2]
 have hs:=sumH_set (y:=x.to (x.turn+1) (put (id,k) x.M)) hx
 have e:sumH (H.set i (x.to (x.turn+1) (put (id,k) x.M)))=sumH H+1:=by
  have:(x.to (x.turn+1) (put (id,k) x.M)).M.length=x.M.length+1:=len_put
  omega
 rw[e]
 rw[hw] at hm
 exact hm
theorem pput_here (h:IsQ w base lo pb mb n np q (.slice (some (vA0 g)) (np+1) cap) T H) (hT:T≤1000000000) (p:Nat) (hp:p<np) {x:Hd} (hx:H[p]? =some x) (id:Nat) (hi:id<n) (k:Ke.K) (hr:Ke.rightK k=true) (hk:k.ok) (hw:whereF n H 0 (id:Int)=none) (hl:x.M.length<moP np n q p):
  vCa 96 #[vPt pb,vI6 (p:Int),vI6 (id:Int),.agg (vKy k)] w fun e w'=>e= .returned (vI6 0)∧PutTo w w' base lo pb mb n np q (.slice (some (vA0 g)) (np+1) cap) T H p x (put (id,k) x.M):=by
 have hn1:=h.p.n1
 have hnp1:=h.p.np1
 have HX:=veil (boxP h k)
 have HPUT:=veil (put_way h hT hx id hi k hr hk (whereF_no hw hi hx) hl)
 have HDONE:=veil (fun wa wb a b c d=>put_done (wa:=wa) (wb:=wb) (k:=k) h hx hi hw a b c d)
 have HR:=veil (fun W=>by have:=Ke.right_ok W k;rw[hr] at this;exact this)
 have hsum:=h.p.sum_le
 have HW:=veil hw
 have wfi:=wf_nat (i:=id) (by omega)
 have wfp:=wf_nat (i:=p) (by omega)
 have hA0:Below (w.heap.size+1) (w.alloc (.cells (vKy k) 120)) (w.alloc (.cells (vKy k) 120)):=bzR
 have HA:=veil hA0
 obtain⟨hQ0,⟨k0,k1,k2⟩,hz0,_⟩:=boxP h k _ hA0
 have HHAS:=veil (phasY hQ0.p p hp)
 obtain⟨c0,c1,c2,_,_⟩:=hQ0.p.view
 have i0: ¬(id:Int)<0:=by omega
 have i1: ¬(n:Int)≤(id:Int):=by omega
 have i2:(id:Int)<(n:Int):=by omega
 have b1:(p:Int)<(np:Int)+1:=by omega
 have b2:(p:Int)<((np+1:Nat):Int):=by omega
 have b3:p<np+1:=by omega
 have b4: ¬(p:Int)<0:=by omega
 have HXX:=veil hx
 clear h hQ0 hA0 hw hx
 refine ge ?_
 go_wp2_with (first
  |(go_at_call 147;refine cS HHAS.out ?_)
  |(go_at_call 129;refine(HR.out _).mono ?_;rintro e w2 ⟨rfl,hb2⟩;have HB2:=veil (HA.out.trans (hb2.mono hz0));obtain⟨hQ2,⟨k20,k21,k22⟩,hz2,_⟩:=HX.out _ HB2.out;have hl2:=hQ2.p.map.look id wfi;rw[HW.out] at hl2;simp only[Option.getD_none,Option.isSome_none] at hl2;obtain⟨c20,c21,c22,c23,_⟩:=hQ2.p.view;have c24:=c23 p x HXX.out;clear hQ2 c23 hb2))
 go_region_held3 (fun w'=>w'.cell? (vA0 pb)=some (.slice (some (vA0 g)) (np+1) cap)∧w'.cell? (vAt g p)=some (vPt x.sb)∧w'.cell? (vA0 w.heap.size)=some (.bool k.e)∧w'.cell? (vAt w.heap.size 1)=some (vU6 k.d)∧w'.cell? (vAt w.heap.size 2)=some (vU8 k.l))
  (first
   |exact S3.out
   |go_keep)
  (first
   |(go_at_call 148;refine(HPUT.out _ (by exact below_post HB2.out rfl rfl rfl rfl)).mono ?_;rintro e w3 ⟨rfl,hs3,c31,hm3,hy3,hf3⟩;have S3:=veil hs3;have HM3:=veil hm3;have HY3:=veil hy3;have HF3:=veil hf3;clear hs3 hm3 hy3 hf3))
 go_wp2_with (first
  |(at_mapUpdate;refine wpList_store_m rfl _ _ _ rfl (by exact HM3.out) (by unfold maxLen;omega) (id:Int) (p:Int) wfi wfp rfl rfl rfl ?_;intro w4 hm4 hg4;have HD:=veil (HDONE.out _ _ HY3.out HF3.out (by exact hg4) hm4);clear hm4 hg4))
 go_ret
 exact⟨rfl,HD.out⟩
end
section
variable {w w' wa wb:World} {base lo pb mb n np q T g cap:Nat} {v:Value} {H:List Hd}
theorem pput_over (h:IsQ w base lo pb mb n np q (.slice (some (vA0 g)) (np+1) cap) T H) (hT:T≤1000000000) (p:Nat) (hp:p<np) {x y:Hd} (hx:H[p]? =some x) (hy:H[np]? =some y) (id:Nat) (hi:id<n) (k:Ke.K) (hr:Ke.rightK k=true) (hk:k.ok) (hw:whereF n H 0 (id:Int)=none) (hl:x.M.length=moP np n q p):
  vCa 96 #[vPt pb,vI6 (p:Int),vI6 (id:Int),.agg (vKy k)] w fun e w'=>e= .returned (vI6 0)∧PutTo w w' base lo pb mb n np q (.slice (some (vA0 g)) (np+1) cap) T H np y (put (id,k) y.M):=by
 have hn1:=h.p.n1
 have hnp1:=h.p.np1
 have HX:=veil (boxP h k)
 have hroom:y.M.length<moP np n q np:=by
  have:=IsS.roomy (h.p.sets.it np y hy) hi (whereF_no hw hi hy)
  unfold moP
  grind
 have HPUT:=veil (put_way h hT hy id hi k hr hk (whereF_no hw hi hy) hroom)
 have HFULL:Hid (∀W,Below (w.heap.size+1) (w.alloc (.cells (vKy k) 120)) W→vCa 148 #[vPt x.sb,vI6 (id:Int),.agg (vKy k)] W fun e w'=>e= .returned (vI6 4)∧Below (w.heap.size+1) (w.alloc (.cells (vKy k) 120)) w'):=fun W hW=>by
  obtain⟨hQ,_,hz,_⟩:=boxP h k W hW
  refine(sPut_full (hQ.p.sets.it p x hx) id hi k hr (whereF_no hw hi hx) hl).mono ?_
  rintro e w1 ⟨rfl,hb⟩
  exact⟨rfl,hW.trans (hb.mono hz)⟩
 have HDONE:=veil (fun wa wb a b c d=>put_done (wa:=wa) (wb:=wb) (k:=k) h hy hi hw a b c d)
 have HR:=veil (fun W=>by have:=Ke.right_ok W k;rw[hr] at this;exact this)
 have HSH:=veil (fun W h0=>pshared_c W pb np (some (vA0 g)) cap hnp1.2 h0)
 have hsum:=h.p.sum_le
 have HW:=veil hw
 have wfi:=wf_nat (i:=id) (by omega)
 have wfp:=wf_nat (i:=np) (by omega)
 have hA0:Below (w.heap.size+1) (w.alloc (.cells (vKy k) 120)) (w.alloc (.cells (vKy k) 120)):=bzR
 have HA:=veil hA0
 obtain⟨hQ0,⟨k0,k1,k2⟩,hz0,_⟩:=boxP h k _ hA0
 have HHAS:=veil (phasY hQ0.p p hp)
 obtain⟨c0,c1,c2,_,_⟩:=hQ0.p.view
 have i0: ¬(id:Int)<0:=by omega
 have i1: ¬(n:Int)≤(id:Int):=by omega
 have i2:(id:Int)<(n:Int):=by omega
 have b1:(p:Int)<(np:Int)+1:=by omega
 have b2:(p:Int)<((np+1:Nat):Int):=by omega
 have b3:p<np+1:=by omega
 have b4: ¬(p:Int)<0:=by omega
 have d1:(np:Int)<(np:Int)+1:=by omega
 have d2:(np:Int)<((np+1:Nat):Int):=by omega
 have d3:np<np+1:=by omega
 have d4: ¬(np:Int)<0:=by omega
 have HXX:=veil hx
 have HYY:=veil hy
 clear h hQ0 hA0 hw hx hy hl hroom
 refine ge ?_
 go_wp2_with (first
  |(go_at_call 147;refine cS HHAS.out ?_)
  |(go_at_call 129;refine(HR.out _).mono ?_;rintro e w2 ⟨rfl,hb2⟩;have HB2:=veil (HA.out.trans (hb2.mono hz0));obtain⟨hQ2,⟨k20,k21,k22⟩,hz2,_⟩:=HX.out _ HB2.out;have hl2:=hQ2.p.map.look id wfi;rw[HW.out] at hl2;simp only[Option.getD_none,Option.isSome_none] at hl2;obtain⟨c20,c21,c22,c23,_⟩:=hQ2.p.view;have c24:=c23 p x HXX.out;clear hQ2 c23 hb2))
 go_region_held3 (fun w'=>w'.cell? (vA0 pb)=some (.slice (some (vA0 g)) (np+1) cap)∧w'.cell? (vAt g p)=some (vPt x.sb)∧w'.cell? (vA0 w.heap.size)=some (.bool k.e)∧w'.cell? (vAt w.heap.size 1)=some (vU6 k.d)∧w'.cell? (vAt w.heap.size 2)=some (vU8 k.l))
  (first
   |exact⟨c30,c34,k30,k31,k32⟩
   |go_keep)
  (first
   |(go_at_call 148;refine(HFULL.out _ (by exact below_post HB2.out rfl rfl rfl rfl)).mono ?_;rintro e w3 ⟨rfl,hb3⟩;have HB3:=veil hb3;obtain⟨hQ3,⟨k30,k31,k32⟩,hz3,_⟩:=HX.out _ HB3.out;obtain⟨c30,c31,c32,c33,_⟩:=hQ3.p.view;have c34:=c33 p x HXX.out;have c35:=c33 np y HYY.out;have C30:=veil c30;clear hQ3 c33 hb3))
 go_wp2_with (first
  |(go_at_call 149;refine cS (HSH.out _ (by omega)) ?_))
 go_region_held3 (fun w'=>w'.cell? (vA0 pb)=some (.slice (some (vA0 g)) (np+1) cap)∧w'.cell? (vAt g np)=some (vPt y.sb)∧w'.cell? (vA0 w.heap.size)=some (.bool k.e)∧w'.cell? (vAt w.heap.size 1)=some (vU6 k.d)∧w'.cell? (vAt w.heap.size 2)=some (vU8 k.l))
  (first
   |exact S5.out
   |simp_all
   |go_keep)
  (first
   |(go_at_call 148;refine(HPUT.out _ (by exact below_post HB3.out rfl rfl rfl rfl)).mono ?_;rintro e w5 ⟨rfl,hs5,c51,hm5,hy5,hf5⟩;have S5:=veil hs5;have HM5:=veil hm5;have HY5:=veil hy5;have HF5:=veil hf5;clear hs5 hm5 hy5 hf5))
 go_wp2_with (first
  |(at_mapUpdate;refine wpList_store_m rfl _ _ _ rfl (by exact HM5.out) (by unfold maxLen;omega) (id:Int) (np:Int) wfi wfp rfl rfl rfl ?_;intro w6 hm6 hg6;have HD:=veil (HDONE.out _ _ HY5.out HF5.out (by exact hg6) hm6);clear hm6 hg6))
 go_ret
 exact⟨rfl,HD.out⟩
end
end Go.Proofs.YtnmhcgpnhlhcgaaGreatDoor
namespace Go.Proofs.YtnmhcgpnhlhcgaaGreatDoor
open Go.RowKit Go.Shelf
attribute [local go_sem] Oper.semAt_some
abbrev Pl (np:Nat):={x:Nat//x≤np}
def plOf (np p d i:Nat):Nat:=(p+1+d%np+i)%np
def ordsU (np p d i:Nat):List Nat:=p::np::((List.range i).map (plOf np p d)).filter (· !=p)
def ords (np p d:Nat):List Nat:=ordsU np p d np
theorem ordsU_yes {np p d i:Nat} (h:plOf np p d i≠p):ordsU np p d (i+1)=ordsU np p d i++[plOf np p d i]:=by
 unfold ordsU
 rw[List.range_succ,List.map_append,List.filter_append]
 simp[h]
theorem ordsU_no {np p d i:Nat} (h:plOf np p d i=p):ordsU np p d (i+1)=ordsU np p d i:=by
 unfold ordsU
 rw[List.range_succ,List.map_append,List.filter_append]
 simp[h]
theorem ordsU_len (np p d i:Nat):(ordsU np p d i).length≤i+2:=by
 unfold ordsU
 grind
theorem ordsU_pre {np p d i:Nat}: ∀{j:Nat},i≤j→ordsU np p d i<+:ordsU np p d j
 |0,h=>by
  have:i=0:=by omega
  rw[this]
  exact List.prefix_refl _
 |j+1,h=>by
  rcases Nat.eq_or_lt_of_le h with e|e
  ·rw[e];exact List.prefix_refl _
  ·have:=ordsU_pre (np:=np) (p:=p) (d:=d) (i:=i) (j:=j) (by omega)
   by_cases q:plOf np p d j=p
   ·rw[ordsU_no q];exact this
   ·rw[ordsU_yes q];exact this.trans (List.prefix_append _ _)
structure RdP (W:World) (B1 B2 B3 pb np p d:Nat) (a:Option Addr) (cap:Nat):Prop where
 l1:B1<W.heap.size
 l2:B2<W.heap.size
 l3:B3<W.heap.size
 l4:pb<W.heap.size
 c1:W.cell? (vA0 B1)=some (vI6 (p:Int))
 c2:W.cell? (vA0 B2)=some (vPt pb)
 c3:W.cell? (vA0 B3)=some (vU6 (d:Int))
 c0:W.cell? (vA0 pb)=some (.slice a (np+1) cap)
theorem RdP.fr {W W':World} {B1 B2 B3 pb np p d:Nat} {a:Option Addr} {cap:Nat} {S:Nat→Prop} (h:RdP W B1 B2 B3 pb np p d a cap) (hS: ¬S B1∧ ¬S B2∧ ¬S B3∧ ¬S pb) (hf:Fr S W W'):RdP W' B1 B2 B3 pb np p d a cap:=
 ⟨Nat.lt_of_lt_of_le h.l1 hf.size,Nat.lt_of_lt_of_le h.l2 hf.size,Nat.lt_of_lt_of_le h.l3 hf.size,Nat.lt_of_lt_of_le h.l4 hf.size,(hf.cell (a:=(vA0 B1)) h.l1 hS.1).trans h.c1,(hf.cell (a:=(vA0 B2)) h.l2 hS.2.1).trans h.c2,(hf.cell (a:=(vA0 B3)) h.l3 hS.2.2.1).trans h.c3,(hf.cell (a:=(vA0 pb)) h.l4 hS.2.2.2).trans h.c0⟩
theorem places_in (nn:Nat) (hn:1≤nn) (l B1 B2 B3 pb np p d:Nat) (a:Option Addr) (cap:Nat) (hp:p<np) (hnp:np≤64) (hd:d<18446744073709551616) (S:Nat→Prop) (hS: ¬S B1∧ ¬S B2∧ ¬S B3∧ ¬S pb) (J Jx:List (Pl np)→World→Prop)
  (hY: ∀pre x W,J pre W→pre.length<np+2→YieldAt Fence.wide (nn-1) Tryz.prog l #[vI6 (x.1:Int)] W fun e W'=>
   (e= .returned (.bool true)∧J (pre++[x]) W'∧Fr S W W')∨(e= .returned (.bool false)∧Jx (pre++[x]) W'))
  (hD: ∀pre W q,J pre W→J pre (World.drewN W q))
  (W:World) (hR:RdP W B1 B2 B3 pb np p d a cap) (h0:J [] W):
  CallsIn Fence.wide nn Tryz.prog 185 #[.func (.yield l) #[] #[],vPt B1,vPt B2,vPt B3] W fun e W'=>(∃v,e= .returned v)∧
   ((∃ys:List (Pl np),ys.map (·.1)=ords np p d∧J ys W')∨(∃pre:List (Pl np),pre.map (·.1)<+:ords np p d∧Jx pre W')):=by
 have c1:=hR.c1
 have c2:=hR.c2
 have HR:=veil hR
 have HY:=veil hY
 have HD:=veil hD
 have HS:=veil hS
 have HSH:=veil (fun W h0=>(callsIn_wide (n:=nn-1)).2 (pshared_c W pb np a cap hnp h0))
 obtain⟨fn,tmps,assign,body,hy,hRd⟩:=hY [] ⟨p,by omega⟩ W h0 (by simp)
 dsimp only at hy
 have HRD:=veil hRd
 clear hR hY hD hS h0 hRd
 refine callsIn_of_wp Tryz.func185 rfl trivial ?_ rfl
 simp only[Tryz.ntmps185,List.size_toArray,List.length_cons,List.length_nil,Nat.reduceAdd,Nat.reduceSub,Array.replicate_succ,Array.replicate_zero,List.push_toArray,List.append_toArray,List.nil_append,List.cons_append]
 gi_wp2
 refine HRD.out.mono ?_
 rintro e W1 (⟨rfl,hJ1,hk1⟩|⟨rfl,hJx1⟩)
 ·have HR1:=veil (HR.out.fr HS.out hk1)
  have HJ1:=veil hJ1
  have d2:=HR1.out.c2
  have D0:=veil HR1.out.c0
  clear hJ1 hk1 c1 c2 hy HRD
  gi_wp2_with (refine⟨trivial,?_⟩;gi_at_call 149;refine(HSH.out _ D0.out).mono ?_;rintro e w2 ⟨rfl,hw2⟩;replace hw2:=hw2.symm;subst hw2)
  obtain⟨fn,tmps,assign,body,hy,hRd⟩:=HY.out [⟨p,by omega⟩] ⟨np,by omega⟩ W1 HJ1.out (by simp)
  dsimp only at hy
  rw[hy,Oper.uponIn_round]
  refine⟨fun _=>hn,hRd.mono ?_⟩
  rintro e W2 (⟨rfl,hJ2,hk2⟩|⟨rfl,hJx2⟩)
  ·have HR2:=veil (HR1.out.fr HS.out hk2)
   have HJ2:=veil hJ2
   have e1:=HR2.out.c1
   have e2:=HR2.out.c2
   have e3:=HR2.out.c3
   have E0:=veil HR2.out.c0
   have z0: ¬(np:Int)=0:=by omega
   clear hJ2 hk2 d2 D0 hy hRd
   gi_wp2_with (refine⟨trivial,?_⟩;gi_at_call 149;refine(HSH.out _ E0.out).mono ?_;rintro e w2 ⟨rfl,hw2⟩;replace hw2:=hw2.symm;subst hw2)
   gi_quiet (fail)
   gi_wp2
   have ew:wrap64 ((p:Int)+1+wrap64 ((d:Int)%(np:Int)))=((p+1+d%np:Nat):Int):=by
    have h1:(d:Int)%(np:Int)=((d%np:Nat):Int):=by omega
    have h2:d%np<np:=Nat.mod_lt _ (by omega)
    rw[h1]
    unfold wrap64
    omega
   simp only[ew]
   have hf:p+1+d%np≤128:=by
    have h2:d%np<np:=Nat.mod_lt _ (by omega)
    omega
   have HPL:Hid (∀i,(p+1+d%np+i)%np=plOf np p d i):=fun i=>rfl
   generalize p+1+d%np=f at*
   have HDR:=veil (HD.out _ _ nq HJ2.out)
   have HRR:=veil (show RdP (W2.drewN nq) B1 B2 B3 pb np p d a cap from⟨HR2.out.l1,HR2.out.l2,HR2.out.l3,HR2.out.l4,HR2.out.c1,HR2.out.c2,HR2.out.c3,HR2.out.c0⟩)
   clear HJ2 HR2 e1 e2 e3 E0 ew
   gi_loopw [31] (fun v wr=> ∃i:Nat,i≤np∧v=vI6 (i:Int)∧RdP wr B1 B2 B3 pb np p d a cap∧ ∃ys:List (Pl np),ys.map (·.1)=ordsU np p d i∧J ys wr) (fun v _=>np-(intOf v).toNat)
   case atStart=>exact⟨0,Nat.zero_le _,rfl,HRR.out,_,rfl,HDR.out⟩
   case round=>
    obtain⟨i,hi,rfl,hRi,ys,hys,hJi⟩:=hrel
    have g1:=hRi.c1
    have HRi:=veil hRi
    have HJi:=veil hJi
    have HYS:=veil hys
    clear hRi hJi hys
    by_cases hil:i<np
    ·have hil':(i:Int)<(np:Int):=by omega
     obtain⟨x,hx⟩: ∃x,plOf np p d i=x:=⟨_,rfl⟩
     have em:((f:Int)+(i:Int))%(np:Int)=(x:Int):=by rw[←hx,←HPL.out i];rfl
     by_cases hxp:x=p
     ·rw[hxp] at em
      have HNX:=veil (show ys.map (·.1)=ordsU np p d (i+1) by rw[ordsU_no (hx.trans hxp)];assumption)
      clear hx hxp
      gi_wp2
      refine⟨fun _ h=>(by cases h),?_⟩
      gi_wp2
      go_roundw
      case rel=>exact⟨i+1,by omega,by go_num,HRi.out,ys,HNX.out,HJi.out⟩
      case measure=>simp[intOf];omega
     ·have hxn:x≤np:=by rw[←hx];exact Nat.le_of_lt (Nat.mod_lt _ (by omega))
      have en:((x:Int) !=(p:Int))=true:=by grind
      have HNX:=veil (show(ys++[(⟨x,hxn⟩:Pl np)]).map (·.1)=ordsU np p d (i+1) by rw[ordsU_yes (by omega),List.map_append,HYS.out,hx];rfl)
      have hlen:ys.length<np+2:=by
       have:=ordsU_len np p d i
       rw[←HYS.out,List.length_map] at this
       omega
      obtain⟨fn,tmps,assign,body,hy,hRd⟩:=HY.out ys ⟨x,hxn⟩ wr HJi.out hlen
      dsimp only at hy
      have HRD:=veil hRd
      clear hx hlen hRd
      gi_wp2
      refine HRD.out.mono ?_
      rintro e W3 (⟨rfl,hJ3,hk3⟩|⟨rfl,hJx3⟩)
      ·have HR3:=veil (HRi.out.fr HS.out hk3)
       have HJ3:=veil hJ3
       clear hJ3 hk3 hy
       gi_wp2
       go_roundw
       case rel=>exact⟨i+1,by omega,by go_num,HR3.out,_,HNX.out,HJ3.out⟩
       case measure=>simp[intOf];omega
      ·have HJx:=veil hJx3
       clear hJx3 hy
       gi_wp2
       refine bodyPost_ret (results_none rfl _ _ _) rfl ?_
       refine⟨⟨_,rfl⟩,.inr ⟨_,?_,HJx.out⟩⟩
       rw[HNX.out]
       exact ordsU_pre (by omega)
    ·obtain rfl:i=np:=by omega
     gi_wp2
     go_end0
     exact⟨⟨_,rfl⟩,.inl ⟨ys,HYS.out,HJi.out⟩⟩
  ·have HJx:=veil hJx2
   clear hJx2
   gi_wp2
   refine bodyPost_ret (results_none rfl _ _ _) rfl ?_
   refine⟨⟨_,rfl⟩,.inr ⟨_,?_,HJx.out⟩⟩
   exact ordsU_pre (i:=0) (Nat.zero_le _)
 ·have HJx:=veil hJx1
  clear hJx1
  gi_wp2
  refine⟨trivial,?_⟩
  gi_wp2
  refine⟨fun _ h=>(by cases h),?_⟩
  gi_wp2
  refine bodyPost_ret (results_none rfl _ _ _) rfl ?_
  refine⟨⟨_,rfl⟩,.inr ⟨_,?_,HJx.out⟩⟩
  exact(show [p]<+:[p,np] from⟨[np],rfl⟩).trans (ordsU_pre (np:=np) (p:=p) (d:=d) (i:=0) (Nat.zero_le np))
end Go.Proofs.YtnmhcgpnhlhcgaaGreatDoor
namespace Go.Proofs.YtnmhcgpnhlhcgaaGreatDoor
open Go.RowKit Go.Shelf
def MM (H:List Hd) (x:Nat):List En:=match H[x]? with
 |some h=>h.M
 |none=>[]
def bstep (H:List Hd) (b:Option Nat) (x:Nat):Option Nat:=match MM H x with
 |[]=>b
 |y::_=>match b with
  |none=>some x
  |some c=>if Ke.up y.2 (tkK (MM H c)) then some x else some c
def bst (H:List Hd) (l:List Nat):Option Nat:=l.foldl (bstep H) none
def bI (H:List Hd):Option Nat→Int
 |none=>0
 |some c=>tkI (MM H c)
def bK (H:List Hd):Option Nat→Ke.K
 |none=>⟨false,0,0⟩
 |some c=>tkK (MM H c)
def bA:Option Nat→Int
 |none=>0
 |some c=>(c:Int)
def sumOn (H:List Hd) (l:List Nat):Nat:=(l.map (fun x=>(MM H x).length)).sum
def ahd (H:List Hd) (l:List Nat):Int:=(sumH H:Int)-(sumOn H l:Int)
theorem MM_at {H:List Hd} {x:Nat} {h:Hd} (e:H[x]? =some h):MM H x=h.M:=by unfold MM;rw[e]
theorem bst_snoc (H:List Hd) (l:List Nat) (x:Nat):bst H (l++[x])=bstep H (bst H l) x:=by unfold bst;simp
theorem ahd_snoc (H:List Hd) (l:List Nat) (x:Nat):ahd H (l++[x])=ahd H l-((MM H x).length:Int):=by
 unfold ahd sumOn
 grind
theorem bst_rest (H:List Hd): ∀(l r:List Nat),(∀x∈r,MM H x=[])→bst H (l++r)=bst H l
 |l,[],_=>by simp
 |l,x::r,h=>by
  have e:l++x::r=(l++[x])++r:=by simp
  rw[e,bst_rest H (l++[x]) r (fun y hy=>h y (by simp[hy])),bst_snoc]
  unfold bstep
  grind
theorem sumOn_le: ∀(l:List Nat) (H:List Hd),l.Nodup→sumOn H l≤sumH H
 |[],_,_=>by simp[sumOn]
 |x::l,H,hn=>by
  rw[List.nodup_cons] at hn
  cases hx:H[x]? with
  |none=>
   have:=sumOn_le l H hn.2
   have e:MM H x=[]:=by unfold MM;rw[hx]
   simp only[sumOn,List.map_cons,List.sum_cons,e,List.length_nil] at this⊢
   omega
  |some h=>
   have ih:=sumOn_le l (H.set x (h.to 0 [])) hn.2
   have hs:=sumH_set (y:=h.to 0 []) hx
   have e:sumOn (H.set x (h.to 0 [])) l=sumOn H l:=by
    unfold sumOn
    congr 1
    refine List.map_congr_left (fun y hy=> ?_)
    have hne:x≠y:=fun q=>hn.1 (by grind)
    unfold MM
    grind
   have e1:(h.to 0 []).M.length=0:=rfl
   have e2:=MM_at hx
   simp only[sumOn,List.map_cons,List.sum_cons,e2] at*
   omega
theorem ords_nodup (np p d:Nat) (hp:p<np):(ords np p d).Nodup:=by
 have hlt: ∀i,plOf np p d i<np:=fun i=>Nat.mod_lt _ (by omega)
 have hm:((List.range np).map (plOf np p d)).Nodup:=by
  rw[List.Nodup,List.pairwise_map]
  refine List.Pairwise.imp_of_mem ?_ (List.nodup_range (n:=np))
  intro a b ha hb hne
  rw[List.mem_range] at ha hb
  unfold plOf
  intro e
  apply hne
  have h1:=Nat.div_add_mod (p+1+d%np+a) np
  have h2:=Nat.div_add_mod (p+1+d%np+b) np
  rw[e] at h1
  rcases Nat.lt_trichotomy ((p+1+d%np+a)/np) ((p+1+d%np+b)/np) with q|q|q
  ·have:=Nat.mul_le_mul_left np (show(p+1+d%np+a)/np+1≤(p+1+d%np+b)/np from q)
   grind
  ·grind
  ·have:=Nat.mul_le_mul_left np (show(p+1+d%np+b)/np+1≤(p+1+d%np+a)/np from q)
   grind
 unfold ords ordsU
 grind
theorem bst_ahead (H:List Hd) (np p d:Nat) (hp:p<np) (l:List Nat) (hl:l<+:ords np p d) (h0:ahd H l=0):bst H (ords np p d)=bst H l:=by
 obtain⟨r,hr⟩:=hl
 have h1:=sumOn_le (ords np p d) H (ords_nodup np p d hp)
 rw[←hr] at h1⊢
 unfold ahd at h0
 have h2:sumOn H (l++r)=sumOn H l+sumOn H r:=by unfold sumOn;simp
 have h3:sumOn H r=0:=by omega
 refine bst_rest H l r (fun x hx=> ?_)
 unfold sumOn at h3
 rw[List.sum_eq_zero_iff_forall_eq_nat] at h3
 simp_all
attribute [local go_sem] Oper.semAt_some
structure BC (W:World) (n0 pb:Nat) (i:Int) (k:Ke.K) (a:Int) (o:Bool) (ah:Int):Prop where
 b0:Boxed W n0 98 (vPt pb)
 b1:Boxed W (n0+1) 3 (vI6 i)
 b2:W.heap[n0+2]? =some (.cells (vKy k) 120 (0,0))
 b3:Boxed W (n0+3) 3 (vI6 a)
 b4:Boxed W (n0+4) 4 (.bool o)
 b5:Boxed W (n0+5) 3 (vI6 ah)
abbrev BSt (W:World) (n0 pb:Nat) (H:List Hd) (b:Option Nat) (ah:Int):Prop:=BC W n0 pb (bI H b) (bK H b) (bA b) b.isSome ah
theorem places_mk (nn pb p d:Nat) (w:World):
  CallsIn Fence.wide nn Tryz.prog 157 #[vPt pb,vI6 (p:Int),vU6 (d:Int)] w fun e w'=>e= .returned (.func (.func 185) #[] #[vPt (w.heap.size+1),vPt w.heap.size,vPt (w.heap.size+2)])∧
   w'=((w.alloc (.cells #[vPt pb] 98)).alloc (.cells #[vI6 (p:Int)] 3)).alloc (.cells #[vU6 (d:Int)] 25):=by
 refine callsIn_of_wp Tryz.func157 rfl trivial ?_ rfl
 simp only[Tryz.ntmps157,List.size_toArray,List.length_cons,List.length_nil,Nat.reduceAdd,Nat.reduceSub,Array.replicate_succ,Array.replicate_zero,List.push_toArray,List.append_toArray,List.nil_append,List.cons_append]
 gi_wp2
 go_ret
 simp
def vals {np:Nat} (l:List (Pl np)):List Nat:=l.map (·.1)
theorem vals_snoc {np:Nat} (l:List (Pl np)) (x:Pl np):vals (l++[x])=vals l++[x.1]:=by unfold vals;simp
theorem blk_kept {W W':World} {B:Nat} {cs:Array Value} {t:TypeId} {c:Nat×Nat} {row:Option Nat} (h:W.heap[B]? =some (.cells cs t c)) (hg:W.grownBy W' row) (hr: ∀r,row=some r→ ∃o:Obj,W.heap[r]? =some o∧o.isCells=false):W'.heap[B]? =some (.cells cs t c):=by
 rw[hg.block B (Array.getElem?_eq_some_iff.1 h).1 (fun e=> ?_)]
 ·exact h
 ·obtain⟨o,ho,hc⟩:=hr B e.symm
  rw[h] at ho
  cases ho
  cases hc
theorem BC.kept {W W':World} {n0 pb:Nat} {i:Int} {k:Ke.K} {a:Int} {o:Bool} {ah:Int} {row:Option Nat} (h:BC W n0 pb i k a o ah) (hg:W.grownBy W' row) (hr: ∀r,row=some r→ ∃o:Obj,W.heap[r]? =some o∧o.isCells=false):BC W' n0 pb i k a o ah:=
 ⟨blk_kept h.b0 hg hr,blk_kept h.b1 hg hr,blk_kept h.b2 hg hr,blk_kept h.b3 hg hr,blk_kept h.b4 hg hr,blk_kept h.b5 hg hr⟩
theorem BC.below {W W':World} {n0 pb:Nat} {i:Int} {k:Ke.K} {a:Int} {o:Bool} {ah:Int} (h:BC W n0 pb i k a o ah) (hb:vBw W W'):BC W' n0 pb i k a o ah:=
 h.kept (row:=none) ⟨hb.os,hb.tape,hb.output,hb.size,fun k hk _=>hb.block k hk⟩ (fun r e=>by cases e)
theorem drew_heap {W:World} {B:Nat} {o:Obj} (h:W.heap[B]? =some o):W.drew.heap[B]? =some o:=h
theorem BC.drew {W:World} {n0 pb:Nat} {i:Int} {k:Ke.K} {a:Int} {o:Bool} {ah:Int} (h:BC W n0 pb i k a o ah):BC W.drew n0 pb i k a o ah:=⟨h.b0,h.b1,h.b2,h.b3,h.b4,h.b5⟩
theorem BC.lt {W:World} {n0 pb:Nat} {i:Int} {k:Ke.K} {a:Int} {o:Bool} {ah:Int} (h:BC W n0 pb i k a o ah):n0+5<W.heap.size:=(Array.getElem?_eq_some_iff.1 h.b5).1
theorem set_other {W:World} {B B' off:Nat} {v:Value} {x:Obj} (h:W.heap[B']? =some x) (hne:B'≠B):(W.setCell (vAt B off) v).heap[B']? =some x:=by
 rw[((Fr.refl (fun k=>k=B) W).setCell (a:=(vAt B off)) rfl v).block B' (Array.getElem?_eq_some_iff.1 h).1 hne]
 exact h
section
variable {W:World} {n0 pb:Nat} {i:Int} {k:Ke.K} {a:Int} {o:Bool} {ah:Int}
theorem BC.s1 (h:BC W n0 pb i k a o ah) (i':Int):BC (W.setCell (vA0 (n0+1)) (vI6 i')) n0 pb i' k a o ah:=
 ⟨set_other h.b0 (by omega),Go.Joins.block_setCell h.b1 _,set_other h.b2 (by omega),set_other h.b3 (by omega),set_other h.b4 (by omega),set_other h.b5 (by omega)⟩
theorem BC.s2 (h:BC W n0 pb i k a o ah) (k':Ke.K):BC (((W.setCell (vA0 (n0+2)) (.bool k'.e)).setCell (vAt (n0+2) 1) (vU6 k'.d)).setCell (vAt (n0+2) 2) (vU8 k'.l)) n0 pb i k' a o ah:=
 ⟨set_other (set_other (set_other h.b0 (by omega)) (by omega)) (by omega),set_other (set_other (set_other h.b1 (by omega)) (by omega)) (by omega),Go.Joins.block_setCell (Go.Joins.block_setCell (Go.Joins.block_setCell h.b2 _) _) _,set_other (set_other (set_other h.b3 (by omega)) (by omega)) (by omega),set_other (set_other (set_other h.b4 (by omega)) (by omega)) (by omega),set_other (set_other (set_other h.b5 (by omega)) (by omega)) (by omega)⟩
theorem BC.s3 (h:BC W n0 pb i k a o ah) (a':Int):BC (W.setCell (vA0 (n0+3)) (vI6 a')) n0 pb i k a' o ah:=
 ⟨set_other h.b0 (by omega),set_other h.b1 (by omega),set_other h.b2 (by omega),Go.Joins.block_setCell h.b3 _,set_other h.b4 (by omega),set_other h.b5 (by omega)⟩
theorem BC.s4 (h:BC W n0 pb i k a o ah) (o':Bool):BC (W.setCell (vA0 (n0+4)) (.bool o')) n0 pb i k a o' ah:=
 ⟨set_other h.b0 (by omega),set_other h.b1 (by omega),set_other h.b2 (by omega),set_other h.b3 (by omega),Go.Joins.block_setCell h.b4 _,set_other h.b5 (by omega)⟩
theorem BC.s5 (h:BC W n0 pb i k a o ah) (ah':Int):BC (W.setCell (vA0 (n0+5)) (vI6 ah')) n0 pb i k a o ah':=
 ⟨set_other h.b0 (by omega),set_other h.b1 (by omega),set_other h.b2 (by omega),set_other h.b3 (by omega),set_other h.b4 (by omega),Go.Joins.block_setCell h.b5 _⟩
theorem blk_cell {B:Nat} {cs:Array Value} {t:TypeId} (h:W.heap[B]? =some (.cells cs t (0,0))) (j:Nat):W.cell? (vAt B j)=cs[j]? ∧W.frozen? (vAt B j)=false:=by
 unfold World.cell? World.frozen?
 grind
theorem BC.cells (h:BC W n0 pb i k a o ah):W.cell? (vA0 n0)=some (vPt pb)∧W.cell? (vA0 (n0+1))=some (vI6 i)∧(W.cell? (vA0 (n0+2))=some (.bool k.e)∧W.cell? (vAt (n0+2) 1)=some (vU6 k.d)∧W.cell? (vAt (n0+2) 2)=some (vU8 k.l))∧W.cell? (vA0 (n0+3))=some (vI6 a)∧W.cell? (vA0 (n0+4))=some (.bool o)∧W.cell? (vA0 (n0+5))=some (vI6 ah):=
 ⟨(blk_cell h.b0 0).1,(blk_cell h.b1 0).1,⟨(blk_cell h.b2 0).1,(blk_cell h.b2 1).1,(blk_cell h.b2 2).1⟩,(blk_cell h.b3 0).1,(blk_cell h.b4 0).1,(blk_cell h.b5 0).1⟩
theorem BC.free (h:BC W n0 pb i k a o ah):W.frozen? (vA0 (n0+1))=false∧(W.frozen? (vA0 (n0+2))=false∧W.frozen? (vAt (n0+2) 1)=false∧W.frozen? (vAt (n0+2) 2)=false)∧W.frozen? (vA0 (n0+3))=false∧W.frozen? (vA0 (n0+4))=false∧W.frozen? (vA0 (n0+5))=false:=
 ⟨(blk_cell h.b1 0).2,⟨(blk_cell h.b2 0).2,(blk_cell h.b2 1).2,(blk_cell h.b2 2).2⟩,(blk_cell h.b3 0).2,(blk_cell h.b4 0).2,(blk_cell h.b5 0).2⟩
end
def SB (n0 k:Nat):Prop:=(n0+1≤k∧k≤n0+5)∨n0+9≤k
theorem places_stops (nn:Nat) (hn:1≤nn) (B1 B2 B3 pb np p d:Nat) (a:Option Addr) (cap:Nat) (hp:p<np) (hnp:np≤64) (hd:d<18446744073709551616) (S:Nat→Prop) (hS: ¬S B1∧ ¬S B2∧ ¬S B3∧ ¬S pb) (w:World) (hR:RdP w B1 B2 B3 pb np p d a cap):
  SeqStopsK Fence.wide nn Tryz.prog 185 #[vPt B1,vPt B2,vPt B3] (fun x:Pl np=> #[Value.int .i64 (x.1:Int)]) (Fr S) (fun ys=>vals ys=ords np p d) (fun pre=>vals pre<+:ords np p d) (np+2) w:=by
 intro l J Jx W hW hJ hJx hY h0
 refine places_in nn hn l B1 B2 B3 pb np p d a cap hp hnp hd S hS J Jx hY (fun pre W q hj=>hJ pre W (W.drewN q) none hj ⟨rfl,rfl,rfl,lzr,fun _ _ _=>rfl⟩ (fun r e=>by cases e)) W ?_ h0
 exact hR.fr (S:=fun _=>False) ⟨id,id,id,id⟩ (Fr.of_below' hW)
theorem fr_put {S:Nat→Prop} {w:World} {B:Nat} (hS: ∀k,B≤k→S k) (hB:B≤w.heap.size) (W:World) (l:Nat) (o o':Obj) (hl:w.heap.size≤l) (ho:W.heap[l]? =some o) (hc:o.isCells=false) (hw:o.isWalk=false):Fr S W (W.putObj l o'):=
 ⟨rfl,rfl,rfl,by simp,fun k _ hk=>World.putObj_heap_other (fun e=>hk (hS k (by omega)))⟩
theorem keeps_below' {W W':World} (h:vBw W W'):KeepsOthers W W':=⟨h.size,fun k o hk _=>(h.block k (Array.getElem?_eq_some_iff.1 hk).1).trans hk⟩
theorem new_at (W:World) (o:Obj) (k:Nat) (hk:W.heap.size=k):(W.alloc o).heap[k]? =some o:=by subst hk;exact World.alloc_heap_new W o
theorem old_at {W:World} (o:Obj) {k:Nat} {x:Obj} (h:W.heap[k]? =some x):(W.alloc o).heap[k]? =some x:=(Below.heap_alloc _ _ _ (Array.getElem?_eq_some_iff.1 h).1).trans h
theorem sumOn_bd {H:List Hd} (h: ∀x,(MM H x).length≤1024): ∀l:List Nat,sumOn H l≤l.length*1024
 |[]=>by simp[sumOn]
 |x::l=>by
  have h1:=h x
  have:=sumOn_bd h l
  simp only[sumOn,List.map_cons,List.sum_cons,List.length_cons,Nat.add_mul,Nat.one_mul] at this⊢
  omega
theorem IsP.mm {w:World} {base lo pb mb n np q:Nat} {v:Value} {H:List Hd} (h:IsP w base lo pb mb n np q v H) (x:Nat):(MM H x).length≤1024:=by
 unfold MM
 cases hx:H[x]? with
 |none=>simp
 |some y=>
  have h1:=(h.sets.it x y hx).fit
  have h2:=h.n1
  have:moP np n q x≤n:=by unfold moP;grind
  grind
structure RW (n0:Nat) (W W':World):Prop where
 fr:Fr (SB n0) W W'
 ko:KeepsOthers W W'
 be:Below n0 W W'
 hz:n0+9≤W'.heap.size
section
variable {n0:Nat} {W W' W'':World}
theorem RW.refl (h:n0+9≤W.heap.size):RW n0 W W:=⟨Fr.refl _ _,KeepsOthers.refl _,bzR,h⟩
theorem RW.below (h:RW n0 W W') (hb:vBw W' W''):RW n0 W W'':=
 ⟨h.fr.trans (Fr.of_below' hb),h.ko.trans (keeps_below' hb),h.be.trans (hb.mono (by have:=h.hz;omega)),Nat.le_trans h.hz hb.size⟩
theorem RW.set (h:RW n0 W W') {B off:Nat} (h1:n0+1≤B) (h2:B≤n0+5) (v:Value):RW n0 W (W'.setCell (vAt B off) v):=
 ⟨h.fr.setCell (a:=(vAt B off)) (.inl ⟨h1,h2⟩) v,h.ko.trans (KeepsOthers.setCell _ _ _),h.be.setCell (p:=(vAt B off)) (by grind) v,Nat.le_trans h.hz ((Fr.refl (fun k=>k=B) W').setCell (a:=(vAt B off)) rfl v).size⟩
theorem RW.drew (h:RW n0 W W'):RW n0 W W'.drew:=⟨⟨h.fr.os,h.fr.tape,h.fr.output,h.fr.size,h.fr.block⟩,⟨h.ko.size,h.ko.same⟩,⟨h.be.os,h.be.tape,h.be.output,h.be.size,h.be.block⟩,h.hz⟩
end
attribute [local go_sem ↓] Go.wp_at_zero Go.wp_at_succ
structure BR (n0:Nat) (W0:World) (pb:Nat) (W:World) (i:Int) (k:Ke.K) (a:Int) (o:Bool) (ah:Int):Prop where
 bc:BC W n0 pb i k a o ah
 rw:RW n0 W0 W
section
variable {n0 pb:Nat} {W0 W W':World} {i:Int} {k:Ke.K} {a:Int} {o:Bool} {ah:Int}
theorem BR.below (h:BR n0 W0 pb W i k a o ah) (hb:vBw W W'):BR n0 W0 pb W' i k a o ah:=⟨h.bc.below hb,h.rw.below hb⟩
theorem BR.drew (h:BR n0 W0 pb W i k a o ah):BR n0 W0 pb W.drew i k a o ah:=⟨h.bc.drew,h.rw.drew⟩
theorem BR.ud (h:BR n0 W0 pb W.drew i k a o ah):BR n0 W0 pb W i k a o ah:=h.below ⟨rfl,rfl,rfl,lzr,fun _ _=>rfl⟩
theorem BR.new (h:BR n0 W0 pb W i k a o ah) (x:Obj):BR n0 W0 pb (W.alloc x) i k a o ah:=h.below ((Below.refl _ W).alloc lzr x)
theorem BR.s1 (h:BR n0 W0 pb W i k a o ah) (i':Int):BR n0 W0 pb (W.setCell (vA0 (n0+1)) (vI6 i')) i' k a o ah:=⟨h.bc.s1 i',h.rw.set (by omega) (by omega) _⟩
theorem BR.s2 (h:BR n0 W0 pb W i k a o ah) (k':Ke.K):BR n0 W0 pb (((W.setCell (vA0 (n0+2)) (.bool k'.e)).setCell (vAt (n0+2) 1) (vU6 k'.d)).setCell (vAt (n0+2) 2) (vU8 k'.l)) i k' a o ah:=
 ⟨h.bc.s2 k',((h.rw.set (by omega) (by omega) _).set (by omega) (by omega) _).set (by omega) (by omega) _⟩
theorem BR.s3 (h:BR n0 W0 pb W i k a o ah) (a':Int):BR n0 W0 pb (W.setCell (vA0 (n0+3)) (vI6 a')) i k a' o ah:=⟨h.bc.s3 a',h.rw.set (by omega) (by omega) _⟩
theorem BR.s4 (h:BR n0 W0 pb W i k a o ah) (o':Bool):BR n0 W0 pb (W.setCell (vA0 (n0+4)) (.bool o')) i k a o' ah:=⟨h.bc.s4 o',h.rw.set (by omega) (by omega) _⟩
theorem BR.s5 (h:BR n0 W0 pb W i k a o ah) (t:Int):BR n0 W0 pb (W.setCell (vA0 (n0+5)) (vI6 t)) i k a o t:=⟨h.bc.s5 t,h.rw.set (by omega) (by omega) _⟩
def BS (n0:Nat) (W0:World) (pb:Nat) (i:Int) (k:Ke.K) (a:Int) (o:Bool) (ah:Int) (W:World):Prop:=
 W.cell? (vA0 (n0+1))=some (vI6 i)∧W.cell? (vA0 (n0+2))=some (.bool k.e)∧W.cell? (vAt (n0+2) 1)=some (vU6 k.d)∧W.cell? (vAt (n0+2) 2)=some (vU8 k.l)∧W.cell? (vA0 (n0+3))=some (vI6 a)∧W.cell? (vA0 (n0+4))=some (.bool o)∧BR n0 W0 pb W i k a o ah
theorem BR.bs (h:BR n0 W0 pb W i k a o ah):BS n0 W0 pb i k a o ah W:=by
 obtain⟨_,h1,⟨h2,h3,h4⟩,h5,h6,_⟩:=h.bc.cells
 exact⟨h1,h2,h3,h4,h5,h6,h⟩
theorem BS.br (h:BS n0 W0 pb i k a o ah W):BR n0 W0 pb W i k a o ah:=h.2.2.2.2.2.2
end
def KS (b:Nat) (k:Ke.K) (W:World):Prop:=
 W.cell? (vA0 b)=some (.bool k.e)∧W.cell? (vAt b 1)=some (vU6 k.d)∧W.cell? (vAt b 2)=some (vU8 k.l)∧W.heap[b]? =some (.cells (vKy k) 120)
theorem KS.of {b:Nat} {k:Ke.K} {W:World} (h:W.heap[b]? =some (.cells (vKy k) 120)):KS b k W:=⟨(blk_cell h 0).1,(blk_cell h 1).1,(blk_cell h 2).1,h⟩
theorem KS.far {b:Nat} {k:Ke.K} {W:World} (h:KS b k W.drew) {B off:Nat} (v:Value) (hn:b≠B):KS b k (W.setCell (vAt B off) v).drew:= .of (drew_heap (set_other h.2.2.2 hn))
theorem bstep_to {H:List Hd} {b:Option Nat} {x:Nat} {c:Bool} (hc:(tkO (MM H x)&&(!b.isSome||Ke.up (tkK (MM H x)) (bK H b)))=c):
  bI H (bstep H b x)=cond c (tkI (MM H x)) (bI H b)∧bK H (bstep H b x)=cond c (tkK (MM H x)) (bK H b)∧bA (bstep H b x)=cond c (x:Int) (bA b)∧(bstep H b x).isSome=cond c true b.isSome:=by
 subst hc
 unfold bstep
 cases hm:MM H x with
 |nil=>simp[tkO]
 |cons z m=>
  cases b with
  |none=>simp[tkO,bI,bK,bA,hm]
  |some d=>
   cases hu:Ke.up z.2 (tkK (MM H d))<;>simp[tkO,tkK,bI,bK,bA,hm]<;>simp_all [tkO,tkK,bI,bK,bA]
section
variable {w w' wa wb:World} {base lo pb mb n np q T g cap:Nat} {v:Value} {H:List Hd}
theorem pbest_in (h : IsP w base lo pb mb n np q (.slice (some (vA0 g)) (np + 1) cap) H) (p d : Nat) (hp : p < np) (hd : d < 18446744073709551616) :
  CallsIn Fence.wide 6 Tryz.prog 118 #[vPt pb, vI6 (p : Int), vU6 (d : Int)] w fun e w' => e = vRt #[vI6 (bI H (bst H (ords np p d))), .agg (vKy (bK H (bst H (ords np p d)))), vI6 (bA (bst H (ords np p d))), .bool (bst H (ords np p d)).isSome] ∧ vBw w w' := by
 have HP : Hid (∀ W, vBw w W → IsP W base lo pb mb n np q (.slice (some (vA0 g)) (np + 1) cap) H) := fun W hW => h.below hW
 have HHAS := veil (fun W hW => (callsIn_wide (n := 5)).2 (phasY (HP.out W hW) p hp))
 have HLEN := veil (fun W hW => (callsIn_wide (n := 5)).2 (plen_ok (HP.out W hW)))
 have hnp := h.np1
 have hlen := h.len
 have hpl := h.pbl
 have hsum := h.sum_le
 refine callsIn_of_wp_marks Tryz.func118 rfl trivial ?_ rfl
 simp only [Tryz.ntmps118, List.size_toArray, List.length_cons, List.length_nil, Nat.reduceAdd, Nat.reduceSub, Array.replicate_succ, Array.replicate_zero, List.push_toArray, List.append_toArray, List.nil_append, List.cons_append]
 have hB5 : vBw w (((((w.alloc (.cells #[vPt pb] 98)).alloc (.cells #[vI6 0] 3)).alloc (.cells #[.bool false, vU6 0, vU8 0] 120)).alloc (.cells #[vI6 0] 3)).alloc (.cells #[.bool false] 4)) := (((((Below.refl _ w).alloc lzr _).alloc (by simp) _).alloc (by simp; omega) _).alloc (by simp; omega) _).alloc (by simp; omega) _
 have HB5 := veil hB5
 have HB9 := veil ((((hB5.alloc (by simp; omega) (.cells #[vI6 (sumH H : Int)] 3)).alloc (by simp; omega) (.cells #[vPt pb] 98)).alloc (by simp; omega) (.cells #[vI6 (p : Int)] 3)).alloc (by simp; omega) (.cells #[vU6 (d : Int)] 25))
 clear hB5 h
 gi_wp2
 refine wpIn_wide.2 (wp_scope_straight ((wpIn_wide (n := 6)).1 ?_))
 gi_wp2_with (first
  | (refine ⟨trivial, ?_⟩; gi_at_call 147; refine (HHAS.out _ HB5.out).mono ?_; rintro e w1 ⟨rfl, hw1⟩; replace hw1 := hw1.symm; subst hw1)
  | (refine ⟨trivial, ?_⟩; gi_at_call 156; refine (HLEN.out _ HB5.out).mono ?_; rintro e w2 ⟨rfl, hw2⟩; replace hw2 := hw2.symm; subst hw2))
 refine wpIn_wide.2 (wp_label ?_)
 gi_wp2_with (refine ⟨trivial, ?_⟩; gi_at_call 157; refine (places_mk _ pb p d _).mono ?_; rintro e w3 ⟨rfl, hw3⟩; subst hw3)
 simp only [Nat.add_assoc, Nat.reduceAdd]
 obtain ⟨W0, hW0⟩ : ∃ W0, (((((((((w.alloc (.cells #[vPt pb] 98)).alloc (.cells #[vI6 0] 3)).alloc (.cells #[.bool false, vU6 0, vU8 0] 120)).alloc (.cells #[vI6 0] 3)).alloc (.cells #[.bool false] 4)).alloc (.cells #[vI6 (sumH H : Int)] 3)).alloc (.cells #[vPt pb] 98)).alloc (.cells #[vI6 (p : Int)] 3)).alloc (.cells #[vU6 (d : Int)] 25)) = W0 := ⟨_, rfl⟩
 rw [hW0] at HB9 ⊢
 have hz : W0.heap.size = w.heap.size + 9 := by rw [← hW0]; simp
 have hst : BSt W0 w.heap.size pb H none (sumH H : Int) := by
  rw [← hW0]
  refine ⟨?_, ?_, ?_, ?_, ?_, ?_⟩ <;> (try unfold Boxed) <;> (repeat (first | (refine new_at _ _ _ ?_; simp; done) | refine old_at _ ?_))
 have x6 : Boxed W0 (w.heap.size + 6) 98 (vPt pb) := by
  rw [← hW0]; unfold Boxed
  repeat (first | (refine new_at _ _ _ ?_; simp) | refine old_at _ ?_)
 have x7 : Boxed W0 (w.heap.size + 7) 3 (vI6 (p : Int)) := by
  rw [← hW0]; unfold Boxed
  repeat (first | (refine new_at _ _ _ ?_; simp) | refine old_at _ ?_)
 have x8 : Boxed W0 (w.heap.size + 8) 25 (vU6 (d : Int)) := by
  rw [← hW0]; unfold Boxed
  repeat (first | (refine new_at _ _ _ ?_; simp) | refine old_at _ ?_)
 have hrd : RdP W0 (w.heap.size + 7) (w.heap.size + 6) (w.heap.size + 8) pb np p d (some (vA0 g)) cap := ⟨by omega, by omega, by omega, by omega, x7.cell, x6.cell, x8.cell, (HP.out _ HB9.out).c0⟩
 have hS : ¬ SB w.heap.size (w.heap.size + 7) ∧ ¬ SB w.heap.size (w.heap.size + 6) ∧ ¬ SB w.heap.size (w.heap.size + 8) ∧ ¬ SB w.heap.size pb := by
  unfold SB; omega
 clear hW0
 refine wpIn_rangeFunc_ownF rfl (by decide) (gf := 185) (lb := #[vPt (w.heap.size + 7), vPt (w.heap.size + 6), vPt (w.heap.size + 8)]) rfl trivial (enters_of Tryz.func185 (by rfl) rfl)
  (places_stops 5 (by decide) (w.heap.size + 7) (w.heap.size + 6) (w.heap.size + 8) pb np p d (some (vA0 g)) cap hp hnp.2 hd (SB w.heap.size) hS W0 hrd) (fun a b => a.trans b) (fr_put (B := w.heap.size + 9) (fun k hk => .inr hk) (by omega)) bzR (fun _ => rfl)
  (fun (pre : List (Pl np)) (W : World) => (BSt W w.heap.size pb H (bst H (vals pre)) (ahd H (vals pre)) ∧ W0.heap.size ≤ W.heap.size) ∧ vBw w W)
  (fun (c : Code) (pre : List (Pl np)) (W : World) => c = .exit 0 ∧ (∃ (pre' : List (Pl np)) (x : Pl np), pre = pre' ++ [x] ∧ ahd H (vals pre') = 0 ∧ BSt W w.heap.size pb H (bst H (vals pre')) 0 ∧ W0.heap.size ≤ W.heap.size) ∧ vBw w W)
  (fun s W W' row hs hg hr => ⟨⟨BC.kept hs.1.1 hg (fun r e => (hr r e).2), Nat.le_trans hs.1.2 hg.size⟩, hs.2.grown hg hs.2.size (fun k e => by grind)⟩)
  (fun c s W W' row hs hg hr => ⟨hs.1, hs.2.1.imp (fun pre' => Exists.imp (fun x q => ⟨q.1, q.2.1, BC.kept q.2.2.1 hg (fun r e => (hr r e).2), Nat.le_trans q.2.2.2 hg.size⟩)), hs.2.2.grown hg hs.2.2.size (fun k e => by grind)⟩)
  ⟨by have e1 : bst H (vals ([] : List (Pl np))) = none := rfl; have e2 : ahd H (vals ([] : List (Pl np))) = (sumH H : Int) := (by rfl); grind, HB9.out⟩
  (fun x => { tmps := #[vPt pb, vI6 (p : Int), vU6 (d : Int), vPt w.heap.size, undef, undef, vPt (w.heap.size + 1), vPt (w.heap.size + 2), vPt (w.heap.size + 3), vPt (w.heap.size + 4), vPt (w.heap.size + 5), vI6 (x.1 : Int), undef, undef, undef, vPt pb, vI6 (p : Int), .bool true, .bool false, undef, vPt pb, vI6 (sumH H : Int), vPt pb, vI6 (p : Int), vU6 (d : Int), .func (.func 185) #[] #[vPt (w.heap.size + 7), vPt (w.heap.size + 6), vPt (w.heap.size + 8)], vI6 (x.1 : Int), undef, undef, undef, undef, undef, undef, undef, undef, undef, undef, undef, undef, undef, undef, undef, undef, undef, undef, undef, undef, undef, undef, undef, undef, undef, undef, undef, undef, undef, undef, undef, undef, undef, undef, undef, undef, undef, undef, undef, undef, undef, undef, undef], defers := [] }) ?assign ?body ?done ?stop
 case assign =>
  intro l x W K hK
  gi_wp2
  exact hK
 case body =>
  rintro l pre ⟨x, hx⟩ W ⟨⟨hB, hWz⟩, hbel⟩ hlt
  have hxl : x < H.length := by omega
  obtain ⟨y, hy⟩ : ∃ y, H[x]? = some y := ⟨H[x], List.getElem?_eq_getElem hxl⟩
  have hM := MM_at hy
  have HBS := veil (show bst H (vals (pre ++ [(⟨x, hx⟩ : Pl np)])) = bstep H (bst H (vals pre)) x by rw [vals_snoc, bst_snoc])
  have HAS := veil (show ahd H (vals (pre ++ [(⟨x, hx⟩ : Pl np)])) = ahd H (vals pre) - (y.M.length : Int) by rw [vals_snoc, ahd_snoc, hM])
  dsimp only
  have hlen2 : (vals pre).length ≤ 65 := by unfold vals; grind
  obtain ⟨c0, _, _, c3, _⟩ := (HP.out _ hbel).view
  have c4 := c3 x y hy
  have a0 := hB.b0.cell
  have HTOP := veil (stop_all ((HP.out _ hbel).sets.it x y hy))
  have HR := veil (BR.mk hB (RW.refl (by omega)))
  have HBEL := veil hbel
  have hyl : y.M.length ≤ 1024 := by rw [← hM]; exact (HP.out _ hbel).mm x
  have ha1 : -70000 ≤ ahd H (vals pre) ∧ ahd H (vals pre) ≤ 70000 := by
   have h1 := sumOn_bd (HP.out _ hbel).mm (vals pre)
   have h2 : (vals pre).length * 1024 ≤ 65 * 1024 := Nat.mul_le_mul_right _ hlen2
   unfold ahd
   omega
  have HSV : Hid (∀ V i k a o t, BR w.heap.size W pb V i k a o t → V.cell? (vA0 w.heap.size) = some (vPt pb) ∧ V.cell? (vA0 pb) = some (.slice (some (vA0 g)) (np + 1) cap) ∧ V.cell? (vAt g x) = some (vPt y.sb)) := fun V i k a o t r => by
   have v := (HP.out _ (HBEL.out.trans r.rw.be)).view
   exact ⟨r.bc.cells.1, v.1, v.2.2.2.1 x y hy⟩
  have HLN : Hid (∀ V, vBw w V → vCa 159 #[vPt y.sb] V fun e w' => e = .returned (vI6 (y.M.length : Int)) ∧ vBw V w') := fun V hV => slenS ((HP.out V hV).sets.it x y hy)
  have HST := veil (fun c => @bstep_to H (bst H (vals pre)) x c)
  rw [hM] at HST
  have HUP := veil (fun W => Ke.above_ok W (tkK y.M) (bK H (bst H (vals pre))))
  clear hB hbel c3 hy hM hxl hst hrd hS x6 x7 x8
  generalize hbb : bst H (vals pre) = b at *
  have b1 : (x : Int) < (np : Int) + 1 := by omega
  have b2 : (x : Int) < ((np + 1 : Nat) : Int) := by omega
  have b3 : x < np + 1 := by omega
  have b4 : ¬ (x : Int) < 0 := by omega
  by_cases h0 : ahd H (vals pre) = 0
  ·have HA0 := veil h0
   rw [h0] at HR
   clear h0
   gi_wp2_with (refine ⟨trivial, ?_⟩; gi_at_call 158; refine (CallsIn.inRound l (callsIn_wide.2 HTOP.out)).mono ?_; rintro e w1 ⟨rfl, hb1⟩; have HR1 := veil (HR.out.below hb1); have a5 := HR1.out.bc.b5.cell; have z1 := BC.lt HR1.out.bc; clear hb1)
   have HR2 := veil (HR1.out.new (.cells (vKy (tkK y.M)) 120))
   refine ⟨HR2.out.rw.ko, rfl, ⟨pre, _, rfl, HA0.out, ?_, by have := HR2.out.rw.hz; simp only [vKy] at this; omega⟩, HBEL.out.trans HR2.out.rw.be⟩
   rw [hbb]
   exact HR2.out.bc
  ·have HNE := veil h0
   obtain ⟨ha1, ha2⟩ := ha1
   generalize ahd H (vals pre) = ah at *
   generalize y.M.length = ln at *
   have ew : IntKind.i64.wrap (ah - (ln : Int)) = ah - (ln : Int) := by simp [IntKind.wrap, IntKind.bits, IntKind.signed]; omega
   generalize Ke.up (tkK y.M) (bK H b) = u at *
   generalize tkI y.M = ti at *
   generalize tkK y.M = tk0 at *
   generalize tkO y.M = tq at *
   generalize bI H b = bi at *
   generalize bK H b = bk at *
   generalize bA b = bx at *
   generalize b.isSome = bf at *
   by_cases hcc : (tq && (!bf || u)) = true
   case' neg =>
    rw [Bool.not_eq_true] at hcc
    obtain ⟨e1, e2, e3, e4⟩ := HST.out _ hcc
    cases tq
    case' false => gi_wp2_with (refine ⟨trivial, ?_⟩; gi_at_call 158; refine (CallsIn.inRound l (callsIn_wide.2 HTOP.out)).mono ?_; rintro e w1 ⟨rfl, hb1⟩; have HR1 := veil (HR.out.below hb1); obtain ⟨a10, a11, ⟨a12, a13, a14⟩, a15, a16, a17⟩ := HR1.out.bc.cells; have z1 := BC.lt HR1.out.bc; have z2 : w.heap.size < w1.heap.size := (by omega); have z3 : w.heap.size + 1 < w1.heap.size := (by omega); have z4 : w.heap.size + 2 < w1.heap.size := (by omega); have z5 : w.heap.size + 3 < w1.heap.size := (by omega); have z6 : w.heap.size + 4 < w1.heap.size := (by omega); clear hb1)
    case' true =>
     cases bf
     ·simp at hcc
     cases u
     case' true => simp at hcc
     gi_wp2_with (first | (refine ⟨trivial, ?_⟩; gi_at_call 158; refine (CallsIn.inRound l (callsIn_wide.2 HTOP.out)).mono ?_; rintro e w1 ⟨rfl, hb1⟩; have HR1 := veil (HR.out.below hb1); obtain ⟨a10, a11, ⟨a12, a13, a14⟩, a15, a16, a17⟩ := HR1.out.bc.cells; have z1 := BC.lt HR1.out.bc; have z2 : w.heap.size < w1.heap.size := (by omega); have z3 : w.heap.size + 1 < w1.heap.size := (by omega); have z4 : w.heap.size + 2 < w1.heap.size := (by omega); have z5 : w.heap.size + 3 < w1.heap.size := (by omega); have z6 : w.heap.size + 4 < w1.heap.size := (by omega); clear hb1) | (refine ⟨trivial, ?_⟩; gi_at_call 119; refine (CallsIn.inRound l (callsIn_wide.2 (HUP.out _))).mono ?_; rintro e w2 ⟨rfl, hb2⟩; have HBW2 := veil hb2; clear hb2))
    all_goals first
     | (rename_i q1 q2; exact absurd q1 (by simp [undef]); done)
     | skip
    all_goals (try refine ⟨trivial, ?_⟩)
    all_goals (try gi_wp2)
    all_goals first
     | (have HR2 := veil ((HR1.out.new (.cells (vKy tk0) 120)).below HBW2.out); generalize w2 = Wc at *)
     | (have HR2 := veil (HR1.out.new (.cells (vKy tk0) 120)); generalize w1.alloc (.cells (vKy tk0) 120) = Wc at *)
    all_goals have HT := veil HR2.out
   case' pos =>
    obtain ⟨e1, e2, e3, e4⟩ := HST.out _ hcc
    cases tq
    ·simp at hcc
    cases bf
    case' true =>
     cases u
     ·simp at hcc
    all_goals
     gi_wp2_with (first | (refine ⟨trivial, ?_⟩; gi_at_call 158; refine (CallsIn.inRound l (callsIn_wide.2 HTOP.out)).mono ?_; rintro e w1 ⟨rfl, hb1⟩; have HR1 := veil (HR.out.below hb1); obtain ⟨a10, a11, ⟨a12, a13, a14⟩, a15, a16, a17⟩ := HR1.out.bc.cells; have z1 := BC.lt HR1.out.bc; have z2 : w.heap.size < w1.heap.size := (by omega); have z3 : w.heap.size + 1 < w1.heap.size := (by omega); have z4 : w.heap.size + 2 < w1.heap.size := (by omega); have z5 : w.heap.size + 3 < w1.heap.size := (by omega); have z6 : w.heap.size + 4 < w1.heap.size := (by omega); clear hb1) | (refine ⟨trivial, ?_⟩; gi_at_call 119; refine (CallsIn.inRound l (callsIn_wide.2 (HUP.out _))).mono ?_; rintro e w2 ⟨rfl, hb2⟩; have HBW2 := veil hb2; clear hb2))
    all_goals (try refine ⟨trivial, ?_⟩)
    all_goals (try gi_wp2)
    all_goals first
     | (have HR2 := veil ((HR1.out.new (.cells (vKy tk0) 120)).below HBW2.out); have HKw := veil (show w2.heap[w1.heap.size]? = some (.cells (vKy tk0) 120) from (HBW2.out.block _ (by simp)).trans (World.alloc_heap_new w1 _)); generalize w2 = Wd at *)
     | (have HR2 := veil (HR1.out.new (.cells (vKy tk0) 120)); have HKw := veil (show (w1.alloc (.cells (vKy tk0) 120)).heap[w1.heap.size]? = some (.cells (vKy tk0) 120) from World.alloc_heap_new w1 _); generalize w1.alloc (.cells (vKy tk0) 120) = Wd at *)
    all_goals
     obtain ⟨_, g1, ⟨g2, g3, g4⟩, g5, g6, _⟩ := HR2.out.bc.cells
     obtain ⟨q1, ⟨q2, q3, q4⟩, q5, q6, _⟩ := HR2.out.bc.free
     have hkb : w.heap.size + 9 ≤ w1.heap.size := HR1.out.rw.hz
     refine region_round (KS w1.heap.size tk0) (by rfl) (by kernel_rfl) (by rintro ⟨a, w, h⟩; assumption) (KS.of (drew_heap HKw.out)) (fun hHeld => ?_)
     refine st ?_
     repeat' first
      | refine dn ?_
      | refine tk ?_
      | refine rd ?_
      | exact opZ
      | refine opN ?_
      | refine opS ?_ ?_
      | (refine opY _ (fun K hK => ?_)
         go_simp
         refine hK.out _ _ ?_ (fun hHeld => ?_)
         ·first | with_reducible exact hHeld.far _ (by omega) | with_reducible exact ((hHeld.far _ (by omega)).far _ (by omega)).far _ (by omega)
         clear hK K
         try simp only [puX])
     refine ⟨?_⟩
     have HT := veil (((((HR2.out.s1 ti).s2 tk0).s3 (x : Int)).s4 true).drew)
     clear g1 g2 g3 g4 g5 g6 q1 q2 q3 q4 q5 q6 HKw hHeld HR2
     generalize ((((((Wd.setCell (vA0 (w.heap.size + 1)) (vI6 ti)).setCell (vA0 (w.heap.size + 2)) (.bool tk0.e)).setCell (vAt (w.heap.size + 2) 1) (vU6 tk0.d)).setCell (vAt (w.heap.size + 2) 2) (vU8 tk0.l)).setCell (vA0 (w.heap.size + 3)) (vI6 (x : Int))).setCell (vA0 (w.heap.size + 4)) (.bool true)).drew = Wc at *
     gi_wp2
   all_goals
    have E1 := veil e1
    have E2 := veil e2
    have E3 := veil e3
    have E4 := veil e4
    clear e1 e2 e3 e4 HST
    have HBELc := veil (HBEL.out.trans HT.out.rw.be)
    obtain ⟨d0, d1, d2⟩ := HSV.out _ _ _ _ _ _ HT.out
    obtain ⟨e0, _, _, _, _, e5⟩ := HT.out.bc.cells
    refine region_round (fun w' => w'.cell? (vA0 w.heap.size) = some (vPt pb) ∧ w'.cell? (vA0 pb) = some (.slice (some (vA0 g)) (np + 1) cap) ∧ w'.cell? (vAt g x) = some (vPt y.sb)) (by rfl) (by kernel_rfl) (by rintro ⟨a, w, h⟩; assumption) ⟨d0, d1, d2⟩ (fun hHeld => ?_)
    refine st ?_
    repeat' first
     | refine dn ?_
     | refine tk ?_
     | refine rd ?_
     | exact opZ
     | refine opN ?_
     | refine opS ?_ ?_
     | (refine opY 8 (fun K hK => ?_)
        go_simp
        go_at_call 159
        refine (HLN.out _ (by exact below_post HBELc.out rfl rfl rfl rfl)).mono ?_
        rintro e w5 ⟨rfl, hb5⟩
        have HR5 := veil (HT.out.below (show vBw Wc w5 from below_pre' hb5 rfl rfl rfl rfl))
        obtain ⟨_, _, _, _, _, e55⟩ := HR5.out.bc.cells
        obtain ⟨_, _, _, _, f55⟩ := HR5.out.bc.free
        clear hb5
        refine hK.out _ _ ?_ (fun hHeld => ?_)
        ·exact HSV.out _ _ _ _ _ _ HR5.out
        clear hK K
        try simp only [puX])
     | (refine opY 10 (fun K hK => ?_)
        go_simp
        have HR6 := veil (HR5.out.s5 (ah - (ln : Int)))
        refine hK.out _ _ ?_ (fun hHeld => ?_)
        ·exact HSV.out _ _ _ _ _ _ HR6.out
        clear hK K
        try simp only [puX])
     | (refine opY _ (fun K hK => ?_)
        go_simp
        refine hK.out _ _ ?_ (fun hHeld => ?_)
        ·exact hHeld
        clear hK K
        try simp only [puX])
    all_goals
     refine ⟨?_⟩
     gi_wp2
     refine ⟨HR6.out.rw.ko, HR6.out.rw.fr, ⟨?_, by rw [hz]; exact HR6.out.rw.hz⟩, HBEL.out.trans HR6.out.rw.be⟩
     rw [HBS.out, HAS.out]
     show BC _ _ _ _ _ _ _ _
     rw [E1.out, E2.out, E3.out, E4.out]
     exact HR6.out.bc
 case' done =>
  rintro D ys W hD hys ⟨⟨hB, hWz⟩, hbel⟩ hK
  rw [hys] at hB
 case' stop =>
  rintro D c pre W hD hpre ⟨rfl, ⟨pre', x, rfl, ha, hB, hWz⟩, hbel⟩ hK
  have e := bst_ahead H np p d hp (vals pre') ((show vals pre' <+: vals (pre' ++ [x]) by rw [vals_snoc]; exact List.prefix_append _ _).trans hpre) ha
  rw [← e] at hB
 all_goals
  generalize hbe : bst H (ords np p d) = b at hB
  have HBE := veil hbe
  have HR := veil (BR.mk hB (RW.refl (by omega)))
  obtain ⟨_, g1, ⟨g2, g3, g4⟩, g5, g6, _⟩ := BC.cells hB
  obtain ⟨q1, ⟨q2, q3, q4⟩, q5, q6, _⟩ := BC.free hB
  have HK := veil hK
  have HBEL := veil hbel
  clear hbe hB hK hbel hst hrd hS x6 x7 x8
  gi_wp2
  refine wpIn_wide.2 ?_
  refine wp_region_noPanic ?_
  refine wp_region_held_drew (S := BS w.heap.size W pb (bI H b) (bK H b) (bA b) b.isSome _) (by rfl) HR.out.drew.bs (fun hHeld => ?_)
  refine st ?_
  repeat' first
   | refine dn ?_
   | refine tk ?_
   | refine rd ?_
   | exact opZ
   | refine opN ?_
   | refine opS ?_ ?_
   | (refine opY _ (fun K hK => ?_)
      go_simp
      refine hK.out _ _ ?_ (fun hHeld => ?_)
      ·first | with_reducible exact (hHeld.br.ud.s1 _).drew.bs | with_reducible exact (hHeld.br.ud.s2 _).drew.bs | with_reducible exact (hHeld.br.ud.s3 _).drew.bs | with_reducible exact (hHeld.br.ud.s4 _).drew.bs
      clear hK K
      try simp only [puX])
  refine ⟨?_⟩
  have HR2 := veil hHeld.br
  have hK := HR2.out.rw.ko.same D _ HK.out rfl
  clear g1 g2 g3 g4 g5 g6 q1 q2 q3 q4 q5 q6 hHeld HK
  generalize ((((((W.setCell (vA0 (w.heap.size + 1)) (vI6 (bI H b))).setCell (vA0 (w.heap.size + 2)) (.bool (bK H b).e)).setCell (vAt (w.heap.size + 2) 1) (vU6 (bK H b).d)).setCell (vAt (w.heap.size + 2) 2) (vU8 (bK H b).l)).setCell (vA0 (w.heap.size + 3)) (vI6 (bA b))).setCell (vA0 (w.heap.size + 4)) (.bool b.isSome)).drew = Wc at *
  have hDn : w.heap.size + 9 ≤ D := by omega
  obtain ⟨_, g1, ⟨g2, g3, g4⟩, g5, g6, _⟩ := BC.cells (BC.kept HR2.out.bc (grownBy_putObj' Wc D (.deferred none)) (fun r e => by cases e; exact ⟨_, hK, rfl⟩))
  simp only [NoPanic]
  go_wp2
  gi_wp2
  try simp only [Exit.noGoto]
  refine ⟨by simp, .inl ⟨_, _, rfl, run_takeDeferred hK, ?_⟩⟩
  refine ⟨_, ?_, rfl, (HBEL.out.trans HR2.out.rw.be).trans (belowK_b (w := w) lzr Wc D _ _ (by omega) hK rfl rfl)⟩
  simp [results, Tryz.f118, go_sem, g1, g2, g3, g4, g5, g6, HBE.out]
end
end Go.Proofs.YtnmhcgpnhlhcgaaGreatDoor
namespace Go.Proofs.YtnmhcgpnhlhcgaaGreatDoor
open Go.RowKit Go.Shelf
attribute [local go_sem] Oper.semAt_some
section
variable {w w' wa wb:World} {base lo pb mb n np q T g cap:Nat} {v:Value} {H:List Hd}
theorem pbest_ok (h:IsP w base lo pb mb n np q (.slice (some (vA0 g)) (np+1) cap) H) (p d:Nat) (hp:p<np) (hd:d<18446744073709551616):
  vQ 118 #[vPt pb,vI6 (p:Int),vU6 (d:Int)] w (.tuple #[vI6 (bI H (bst H (ords np p d))),.agg (vKy (bK H (bst H (ords np p d)))),vI6 (bA (bst H (ords np p d))),.bool (bst H (ords np p d)).isSome]):=
 callsIn_wide.1 (pbest_in h p d hp hd)
end
end Go.Proofs.YtnmhcgpnhlhcgaaGreatDoor
namespace Go.Proofs.YtnmhcgpnhlhcgaaGreatDoor
open Go.RowKit Go.Lib
attribute [local go_sem ↓] Go.wp_at_zero Go.wp_at_succ
theorem sumH_nil: ∀{H:List Hd},(∀(i:Nat) (x:Hd),H[i]? =some x→x.M=[])→sumH H=0
 |[],_=>rfl
 |h::H,hh=>by
  have h1:=hh 0 h rfl
  have:=sumH_nil (H:=H) (fun i x hx=>hh (i+1) x (by grind))
  simp only[sumH,List.map_cons,List.sum_cons,h1,List.length_nil] at this⊢
  omega
theorem Bld.isQ {w0 w:World} {n np q:Nat} {v:Value} {H:List Hd} (h:Bld w0 w n (moP np n q) v H) (hl:H.length=np+1) (h1:1≤n∧n≤1024) (h2:1≤np∧np≤64) (h3:1≤q∧q≤256):IsQ w (w0.heap.size+2) (w0.heap.size+2) (w0.heap.size+1) w0.heap.size n np q v 0 H:=by
 have hM: ∀(i:Nat) (x:Hd),H[i]? =some x→x.M=[]:=fun i x hx=>(h.fresh i x hx).1
 have hvb:=Dc.own_ge h.row
 have hw:whereF n H 0=fun _=>none:=funext fun id=>whereF_none n id H 0 (fun i x hx _=>by rw[hM i x hx];rfl)
 refine⟨⟨h1,h2,h3,h.blk,h.row,hl,h.sets,?_,fun i x hx k hk=>⟨h.sep i x hx k hk,?_,?_⟩,⟨by omega,fun e=> ?_,fun e=> ?_⟩⟩,fun i j x y id hx hy h5 h6=> ?_,fun i x hx=>by rw[(h.fresh i x hx).2];omega⟩
 ·rw[hw,sumH_nil hM];exact h.map
 ·have:=h.sets.low i x hx k hk;omega
 ·have:=h.sets.low i x hx k hk;omega
 ·grind
 ·grind
 ·rw[hM i x hx] at h5;cases h5
section
variable {w w' wa wb:World} {base lo pb mb n np q T g cap:Nat} {v:Value} {H:List Hd}
theorem rem_done (h:IsQ w base lo pb mb n np q v T H) {i:Nat} {x:Hd} (hx:H[i]? =some x) {id:Nat} (hk:(keyOf x.M id).isSome=true) (hw:whereF n H 0 (id:Int)=some (i:Int)) {t:Nat} (ht:t≤x.turn+1)
  (hy:(x.to t (cut id x.M)).is wa n (moP np n q i)) (hf:Fr x.own w wa) (hg:wa.grownBy wb (some mb)) (hm:IsM wb mb (setF (whereF n H 0) (id:Int) none) (if (whereF n H 0 (id:Int)).isSome then sumH H-1 else sumH H)):
  IsQ wb base lo pb mb n np q v (T+1) (H.set i (x.to t (cut id x.M)))∧Fr (fun k=>k=mb∨x.own k) w wb:=by
 obtain⟨u1,u2⟩:=where_cut (n:=n) (y:=x.to t (cut id x.M)) h.un hx rfl hk
 refine h.turned hx ht hf hy ⟨hg.os,hg.tape,hg.output,hg.size,fun j hj hn=>hg.block j hj (fun e=>hn (Option.some.inj e))⟩ u1 ?_
 rw[u2]
 have hs:=sumH_set (y:=x.to t (cut id x.M)) hx
 obtain⟨k,hkk⟩:=Option.isSome_iff_exists.1 hk
 have hc:=len_cut (IsS.nd (h.p.sets.it i x hx)) ((keyOf_some (IsS.nd (h.p.sets.it i x hx))).1 hkk)
 have e:sumH (H.set i (x.to t (cut id x.M)))=sumH H-1:=by
  have:(x.to t (cut id x.M)).M.length=(cut id x.M).length:=rfl
  omega
 rw[e]
 rw[hw] at hm
 exact hm
theorem premove_at (h:IsQ w base lo pb mb n np q v T H) (id:Nat) (hi:id<n) {i:Nat} {x:Hd} (hx:H[i]? =some x) (hk:(keyOf x.M id).isSome=true):
  vCa 160 #[vPt pb,vI6 (id:Int)] w fun e w'=>e= .returned (vI6 0)∧ ∃t,IsQ w' base lo pb mb n np q v (T+1) (H.set i (x.to t (cut id x.M)))∧Fr (fun k=>k=mb∨x.own k) w w':=by
 have hn1:=h.p.n1
 have hw:=whereF_some n H h.un i x hx id hi hk
 have wfi:=wf_nat (i:=id) (by omega)
 have HSET:=veil (pset_at h.p (id:Int) wfi i x hx hw)
 have HDONE:=veil (fun t ht wa wb a b c d=>rem_done (wa:=wa) (wb:=wb) (t:=t) h hx hk hw ht a b c d)
 have hrc:remC n x.M (id:Int)=0:=by unfold remC;grind
 have hrl:remL n x.M (id:Int)=cut id x.M:=by unfold remL;grind
 have hsep:=h.p.sep i x hx
 have HREM:Hid (vCa 175 #[vPt x.sb,vI6 (id:Int)] w fun e w'=>e= .returned (vI6 0)∧(∃t,t≤x.turn+1∧(x.to t (cut id x.M)).is w' n (moP np n q i))∧Fr x.own w w'∧w'.cell? (vAt pb 1)=some (.map (some mb))∧IsM w' mb (whereF n H 0) (sumH H)):=by
  refine(sremove_all (h.p.sets.it i x hx) (id:Int)).mono ?_
  rintro e w1 ⟨rfl,⟨t,ht,hs⟩,hf⟩
  rw[hrl] at hs
  have hf':Fr x.own w w1:=hf
  exact⟨by rw[hrc],⟨t,ht,hs⟩,hf',(hf'.cell (a:=(vAt pb 1)) h.p.pbl (fun q=>(hsep pb q).2.1 rfl)).trans h.p.c1,h.p.map.block (hf'.block _ h.p.map.lt (fun q=>(hsep mb q).2.2 rfl))⟩
 clear h hw hx hk hrc hrl hsep
 refine ge ?_
 go_wp2_with (first
  |(go_at_call 134;refine cS HSET.out ?_)
  |(go_at_call 175;refine(HREM.out).mono ?_;rintro e w2 ⟨rfl,⟨t,ht,hy2⟩,hf2,c21,hm2⟩;have HY2:=veil hy2;have HF2:=veil hf2;have HM2:=veil hm2;have HT:=veil ht;clear hy2 hf2 hm2 ht)
  |(at_delete;refine wpList_delete_m rfl _ _ rfl (by exact HM2.out) (id:Int) wfi rfl rfl ?_;intro w3 hm3 hg3;have HD:=veil (HDONE.out t HT.out _ _ HY2.out HF2.out (by exact hg3) hm3);clear hm3 hg3))
 go_ret
 exact⟨rfl,t,HD.out⟩
end
section
variable {w w' wa wb:World} {base lo pb mb n np q T g cap:Nat} {v:Value} {H:List Hd}
theorem IsQ.frame {S:Nat→Prop} (h:IsQ w base lo pb mb n np q v T H) (hf:Fr S w w') (hn: ∀k,OwnP pb mb v H k→ ¬S k):IsQ w' base lo pb mb n np q v T H:=⟨h.p.frame hf hn,h.un,h.tn⟩
def key3 (W:World) (B:Nat) (k:Ke.K):World:=((W.setCell (vA0 B) (.bool k.e)).setCell (vAt B 1) (vU6 k.d)).setCell (vAt B 2) (vU8 k.l)
theorem fr_key3 (W:World) (B:Nat) (k:Ke.K):Fr (fun j=>j=B) W (key3 W B k):=(((Fr.refl (fun j=>j=B) W).setCell (a:=(vA0 B)) rfl _).setCell (a:=(vAt B 1)) rfl _).setCell (a:=(vAt B 2)) rfl _
theorem blk_key3 {W:World} {B:Nat} {k0 k1:Ke.K} (h:W.heap[B]? =some (.cells (vKy k0) 120 (0,0))):(key3 W B k1).heap[B]? =some (.cells (vKy k1) 120 (0,0)):=
 Go.Joins.block_setCell (Go.Joins.block_setCell (Go.Joins.block_setCell h _) _) _
theorem own_set {i:Nat} {x:Hd} (hx:H[i]? =some x) (t:Nat) (M:List En) (k:Nat) (h:OwnP pb mb v (H.set i (x.to t M)) k):OwnP pb mb v H k:=by
 have hil:i<H.length:=(List.getElem?_eq_some_iff.1 hx).1
 rcases h with e|e|e|⟨j,z,hz,hk⟩
 ·exact .inl e
 ·exact .inr (.inl e)
 ·exact .inr (.inr (.inl e))
 ·rcases set_key hil hz with ⟨rfl,rfl⟩|⟨_,r⟩
  ·exact .inr (.inr (.inr ⟨j,x,hx,hk⟩))
  ·exact .inr (.inr (.inr ⟨j,z,r,hk⟩))
theorem ptake_at (h : IsQ w base lo pb mb n np q (.slice (some (vA0 g)) (np + 1) cap) T H) (p d : Nat) (hp : p < np) (hd : d < 18446744073709551616) {c : Nat} {x : Hd} {z : En} {M' : List En} (hb : bst H (ords np p d) = some c) (hx : H[c]? = some x) (hM : x.M = z :: M') :
  vCa 122 #[vPt pb, vI6 (p : Int), vU6 (d : Int)] w fun e w' => e = vRt #[vI6 (z.1 : Int), .agg (vKy z.2), vI6 (c : Int), .bool true] ∧ ∃ t, IsQ w' base lo pb mb n np q (.slice (some (vA0 g)) (np + 1) cap) (T + 1) (H.set c (x.to t M')) ∧ Fr (fun k => k = mb ∨ x.own k) w w' := by
 have hbl := h.p.blocks
 have hbB : vBw w (w.alloc (.cells #[.bool false, vU6 0, vU8 0] 120)) := bzA
 have hcut : cut z.1 x.M = M' := by rw [hM]; exact cut_head (by rw [← hM]; exact IsS.nd (h.p.sets.it c x hx))
 have hzk : (keyOf x.M z.1).isSome = true := by rw [has_iff]; grind
 have hzn : z.1 < n := by
  obtain ⟨R, L, hS, hI⟩ := id_S (h.p.sets.it c x hx)
  exact hI.rng hS z (by grind)
 have HBEST := veil (pbest_ok (h.p.below hbB) p d hp hd)
 rw [hb] at HBEST
 have e1 : bI H (some c) = (z.1 : Int) := by show tkI (MM H c) = _; rw [MM_at hx, hM]; rfl
 have e2 : bK H (some c) = z.2 := by show tkK (MM H c) = _; rw [MM_at hx, hM]; rfl
 have e3 : bA (some c) = (c : Int) := rfl
 rw [e1, e2, e3] at HBEST
 simp only [Option.isSome_some] at HBEST
 have HK : Hid (∀ W, Below (w.alloc (.cells #[.bool false, vU6 0, vU8 0] 120)).heap.size (w.alloc (.cells #[.bool false, vU6 0, vU8 0] 120)) W →
   (∀ j, W.frozen? (vAt w.heap.size j) = false) ∧ W.cell? (vA0 w.heap.size) = some (.bool false) ∧ W.cell? (vAt w.heap.size 1) = some (vU6 0) ∧ W.cell? (vAt w.heap.size 2) = some (vU8 0) ∧ (key3 W w.heap.size z.2).heap[w.heap.size]? = some (.cells (vKy z.2) 120 (0, 0)) ∧
   IsQ (key3 W w.heap.size z.2) base lo pb mb n np q (.slice (some (vA0 g)) (np + 1) cap) T H ∧ vBw w (key3 W w.heap.size z.2)) := fun W hW => by
  have hblk : W.heap[w.heap.size]? = some (.cells #[.bool false, vU6 0, vU8 0] 120 (0, 0)) := (hW.block _ (by simp)).trans (World.alloc_heap_new w _)
  have hbw : vBw w W := hbB.trans (hW.mono hbB.size)
  have hfk := fr_key3 W w.heap.size z.2
  refine ⟨fun j => (blk_cell hblk j).2, (blk_cell hblk 0).1, (blk_cell hblk 1).1, (blk_cell hblk 2).1, blk_key3 (k0 := ⟨false, 0, 0⟩) hblk, (h.below hbw).frame hfk (fun k hk e => ?_), hbw.trans (hfk.below hbw.size (fun k e => by omega))⟩
  grind
 have HREM : Hid (∀ W, IsQ W base lo pb mb n np q (.slice (some (vA0 g)) (np + 1) cap) T H → vCa 160 #[vPt pb, vI6 (z.1 : Int)] W fun e w' => e = .returned (vI6 0) ∧ ∃ t, IsQ w' base lo pb mb n np q (.slice (some (vA0 g)) (np + 1) cap) (T + 1) (H.set c (x.to t M')) ∧ Fr (fun k => k = mb ∨ x.own k) W w') := fun W hW => by
  have := premove_at hW z.1 hzn hx hzk
  rw [hcut] at this
  exact this
 have HOWN : Hid (∀ t k, OwnP pb mb (.slice (some (vA0 g)) (np + 1) cap) (H.set c (x.to t M')) k → k < w.heap.size) := fun t k hk => hbl k (own_set hx t M' k hk)
 have HNB : Hid (¬ (w.heap.size = mb ∨ x.own w.heap.size)) := by
  rintro (e | e)
  ·have := h.p.map.lt; omega
  ·have := (h.p.sets.it c x hx).blocks _ e; omega
 clear h hbl hbB hcut hzk hzn hb e1 e2 e3 hM hx
 refine ge ?_
 go_wp2_with (first
  | (go_at_call 118; refine (HBEST.out).mono ?_; rintro e w1 ⟨rfl, hb1⟩; obtain ⟨f1, k0, k1, k2, hblk, hQ1, hB1⟩ := HK.out w1 hb1; have f10 := f1 0; have f11 := f1 1; have f12 := f1 2; have HBLK := veil hblk; have HQ1 := veil hQ1; have HB1 := veil hB1; clear f1 hblk hQ1 hB1 hb1)
  | (go_at_call 160; refine (HREM.out _ (by exact HQ1.out)).mono ?_; rintro e w2 ⟨rfl, t, hQ2, hF2⟩; have HBLK2 := veil ((hF2.block _ (Array.getElem?_eq_some_iff.1 HBLK.out).1 HNB.out).trans HBLK.out); have HQ2 := veil hQ2; have HF2 := veil hF2; have k20 := (blk_cell HBLK2.out 0).1; have k21 := (blk_cell HBLK2.out 1).1; have k22 := (blk_cell HBLK2.out 2).1; have f20 := (blk_cell HBLK2.out 0).2; have f21 := (blk_cell HBLK2.out 1).2; have f22 := (blk_cell HBLK2.out 2).2; clear hQ2 hF2))
 have HB3 := veil (blk_key3 (k1 := z.2) HBLK2.out)
 simp only [List.getElem?_toArray, List.getElem?_cons_zero, List.getElem?_cons_succ] at k20 k21 k22
 refine wp_region_noPanic ?_
 refine wp_region_held_drew (S := (fun w' => w'.cell? (vA0 w.heap.size) = some (.bool z.2.e) ∧ w'.cell? (vAt w.heap.size 1) = some (vU6 z.2.d) ∧ w'.cell? (vAt w.heap.size 2) = some (vU8 z.2.l))) (by rfl) ?_ (fun hHeld => ?_)
 ·simp_all
 refine st ?_
 repeat' first
  | refine dn ?_
  | refine tk ?_
  | refine rd ?_
  | exact opZ
  | refine opN ?_
  | refine opS ?_ ?_
  | (refine opY _ (fun K hK => ?_)
     go_simp
     refine hK.out _ _ ?_ (fun hHeld => ?_)
     ·exact ⟨(blk_cell (drew_heap HB3.out) 0).1, (blk_cell (drew_heap HB3.out) 1).1, (blk_cell (drew_heap HB3.out) 2).1⟩
     clear hK K
     try simp only [puX])
 refine ⟨?_⟩
 simp only [NoPanic]
 have HW3 := veil (fr_key3 w2 w.heap.size z.2)
 have HB4 := veil (drew_heap HB3.out)
 have HF4 : Hid (Fr (fun j => j = w.heap.size) w2 (key3 w2 w.heap.size z.2).drew) := ⟨HW3.out.os, HW3.out.tape, HW3.out.output, HW3.out.size, HW3.out.block⟩
 clear HB3 HW3 k20 k21 k22 f20 f21 f22 hHeld
 have hkk : (((w2.setCell (vA0 w.heap.size) (.bool z.2.e)).setCell (vAt w.heap.size 1) (vU6 z.2.d)).setCell (vAt w.heap.size 2) (vU8 z.2.l)).drew = (key3 w2 w.heap.size z.2).drew := rfl
 rw [hkk]
 generalize (key3 w2 w.heap.size z.2).drew = W4 at *
 have g0 := (blk_cell HB4.out 0).1
 have g1 := (blk_cell HB4.out 1).1
 have g2 := (blk_cell HB4.out 2).1
 simp at g0 g1 g2
 go_wp2
 refine bodyPost_ret (v := .tuple #[vI6 (z.1 : Int), .agg (vKy z.2), vI6 (c : Int), .bool true]) ?_ rfl ?_
 ·simp [results, Tryz.f122, go_sem, g0, g1, g2]
 refine ⟨rfl, t, HQ2.out.frame HF4.out (fun k hk e => ?_), ?_⟩
 ·have := HOWN.out t k hk; omega
 ·have hA : Fr (fun k => k = mb ∨ x.own k) w w2 := (Fr.of_below' HB1.out).trans HF2.out
  exact ⟨HF4.out.os.trans hA.os, HF4.out.tape.trans hA.tape, HF4.out.output.trans hA.output, Nat.le_trans hA.size HF4.out.size, fun k hk hn => (HF4.out.block k (Nat.lt_of_lt_of_le hk hA.size) (fun e => by omega)).trans (hA.block k hk hn)⟩
end
end Go.Proofs.YtnmhcgpnhlhcgaaGreatDoor
namespace Go.Proofs.YtnmhcgpnhlhcgaaGreatDoor
open Go.RowKit Go.Shelf
attribute [local go_sem] Oper.semAt_some
theorem pbest_no (w:World) (a:Option Addr) (p d:Int) (hh: ∀W,vBw w W→vCa 147 #[.pointer a,vI6 p] W fun e w'=>e= .returned (.bool false)∧w'=W):
  vCa 118 #[.pointer a,vI6 p,vU6 d] w fun e w'=>e=vRt #[vI6 0,.agg #[.bool false,vU6 0,vU8 0],vI6 0,.bool false]∧vBw w w':=by
 refine(callsIn_wide (n:=6)).1 ?_
 have HHAS:=veil (fun W hW=>(callsIn_wide (n:=5)).2 (hh W hW))
 clear hh
 refine callsIn_of_wp_marks Tryz.func118 rfl trivial ?_ rfl
 simp only[Tryz.ntmps118,List.size_toArray,List.length_cons,List.length_nil,Nat.reduceAdd,Nat.reduceSub,Array.replicate_succ,Array.replicate_zero,List.push_toArray,List.append_toArray,List.nil_append,List.cons_append]
 have hB5:vBw w (((((w.alloc (.cells #[.pointer a] 98)).alloc (.cells #[vI6 0] 3)).alloc (.cells #[.bool false,vU6 0,vU8 0] 120)).alloc (.cells #[vI6 0] 3)).alloc (.cells #[.bool false] 4)):=(((((Below.refl _ w).alloc lzr _).alloc (by simp) _).alloc (by simp;omega) _).alloc (by simp;omega) _).alloc (by simp;omega) _
 have HB5:=veil hB5
 clear hB5
 gi_wp2
 refine wpIn_wide.2 (wp_scope_straight ((wpIn_wide (n:=6)).1 ?_))
 gi_wp2_with (first
  |(refine⟨trivial,?_⟩;gi_at_call 147;refine(HHAS.out _ HB5.out).mono ?_;rintro e w1 ⟨rfl,hw1⟩;replace hw1:=hw1.symm;subst hw1))
 try simp only[Exit.noGoto]
 refine⟨_,?_,rfl,HB5.out⟩
 simp[results,Tryz.f118,go_sem]
end Go.Proofs.YtnmhcgpnhlhcgaaGreatDoor
namespace Go.Proofs.YtnmhcgpnhlhcgaaGreatDoor
open Go.RowKit Go.Lib
attribute [local go_sem ↓] Go.wp_at_zero Go.wp_at_succ
def Ms (H:List Hd):List (List En):=H.map (·.M)
theorem Ms_len (H:List Hd):(Ms H).length=H.length:=by simp[Ms]
theorem Ms_at {H:List Hd} {i:Nat} {x:Hd} (h:H[i]? =some x):(Ms H)[i]? =some x.M:=by simp[Ms,h]
theorem Ms_set (H:List Hd) (i:Nat) (y:Hd):Ms (H.set i y)=(Ms H).set i y.M:=by simp[Ms,List.map_set]
section
variable {H X:List Hd}
theorem Ms_pt (e:Ms H=Ms X) {i:Nat} {x y:Hd} (hx:H[i]? =some x) (hy:X[i]? =some y):x.M=y.M:=by
 have h1:=Ms_at hx
 have h2:=Ms_at hy
 grind
theorem Ms_to (e:Ms H=Ms X) {i:Nat} {x:Hd} (hx:H[i]? =some x): ∃y,X[i]? =some y∧y.M=x.M:=by
 have h1:=Ms_at hx
 grind[Ms]
theorem MM_ms (H:List Hd) (x:Nat):MM H x=((Ms H)[x]?).getD []:=by
 unfold MM Ms
 grind
theorem MM_eq (e:Ms H=Ms X):MM H=MM X:=funext fun x=>by rw[MM_ms,MM_ms,e]
theorem bstep_eq (e:Ms H=Ms X):bstep H=bstep X:=by
 funext b x
 unfold bstep
 rw[MM_eq e]
theorem bst_eq (e:Ms H=Ms X) (l:List Nat):bst H l=bst X l:=by unfold bst;rw[bstep_eq e]
theorem bI_eq (e:Ms H=Ms X) (o:Option Nat):bI H o=bI X o:=by cases o<;>simp[bI,MM_eq e]
theorem bK_eq (e:Ms H=Ms X) (o:Option Nat):bK H o=bK X o:=by cases o<;>simp[bK,MM_eq e]
theorem len_eq (e:Ms H=Ms X):H.length=X.length:=by rw[←Ms_len,←Ms_len,e]
theorem whereF_eq (e:Ms H=Ms X) (n:Nat) (k id:Int):whereF n H k id=whereF n X k id:=
 whereF_congr n id H X k (len_eq e) (fun i x x' hx hx' _=>by rw[Ms_pt e hx hx'])
theorem Un_eq (e:Ms H=Ms X) (h:Un H):Un X:=fun i j x y id hx hy h1 h2=>by
 obtain⟨x',hx',ex⟩:=Ms_to e.symm hx
 obtain⟨y',hy',ey⟩:=Ms_to e.symm hy
 exact h i j x' y' id hx' hy' (by grind) (by grind)
end
def aPut (np n q:Nat) (H:List Hd) (p:Nat):Nat:=if (MM H p).length<min q n then p else np
def pputC (np n:Nat) (H:List Hd) (p id:Int) (k:Ke.K):Int:=if (p<0∨(np:Int)≤p)∨Bad n id k then 2 else if (whereF n H 0 id).isSome then 5 else 0
def pputG (np n q:Nat) (H:List Hd) (p id:Int) (k:Ke.K):List (List En):=if pputC np n H p id k=0 then(Ms H).set (aPut np n q H p.toNat) (put (id.toNat,k) (MM H (aPut np n q H p.toNat))) else Ms H
def pchgC (n:Nat) (H:List Hd) (id:Int) (k:Ke.K):Int:=if Bad n id k then 2 else if (whereF n H 0 id).isSome then 0 else 6
def aOf (n:Nat) (H:List Hd) (id:Int):Nat:=((whereF n H 0 id).getD 0).toNat
def pchgG (n:Nat) (H:List Hd) (id:Int) (k:Ke.K):List (List En):=if pchgC n H id k=0 then(Ms H).set (aOf n H id) (chgL n (MM H (aOf n H id)) id k) else Ms H
def bb (np:Nat) (H:List Hd) (p d:Int):Option Nat:=if 0≤p∧p<(np:Int) then bst H (ords np p.toNat d.toNat) else none
def ptkG (np:Nat) (H:List Hd) (p d:Int):List (List En):=match bb np H p d with
 |none=>Ms H
 |some c=>(Ms H).set c (MM H c).tail
section
variable {w w' wa wb:World} {base lo pb mb n np q T g cap:Nat} {v:Value} {H:List Hd}
theorem IsQ.more (h:IsQ w base lo pb mb n np q v T H) {T':Nat} (ht:T≤T'):IsQ w base lo pb mb n np q v T' H:=⟨h.p,h.un,fun i x hx=>Nat.le_trans (h.tn i x hx) ht⟩
def Leaves (w w':World) (base lo pb mb n np q:Nat) (v:Value) (T:Nat) (H:List Hd) (G:List (List En)):Prop:=
 (∃H',IsQ w' base lo pb mb n np q v (T+1) H'∧Ms H'=G∧ ∀k,OwnP pb mb v H' k↔OwnP pb mb v H k)∧Fr (OwnP pb mb v H) w w'
theorem Leaves.same (h:IsQ w base lo pb mb n np q v T H) (hb:vBw w w'):Leaves w w' base lo pb mb n np q v T H (Ms H):=
 ⟨⟨H,(h.below hb).more (by omega),rfl,fun _=>Iff.rfl⟩,Fr.of_below' hb⟩
theorem own_set' {i:Nat} {x:Hd} (hx:H[i]? =some x) (t:Nat) (M:List En) (k:Nat):OwnP pb mb v (H.set i (x.to t M)) k↔OwnP pb mb v H k:=by
 refine⟨own_set hx t M k,?_⟩
 have hil:=(List.getElem?_eq_some_iff.1 hx).1
 rintro(e|e|e|⟨j,z,hz,hk⟩)
 ·exact .inl e
 ·exact .inr (.inl e)
 ·exact .inr (.inr (.inl e))
 ·by_cases hj:j=i
  ·subst hj
   rw[hx] at hz
   injection hz with hz
   subst hz
   exact .inr (.inr (.inr ⟨j,x.to t M,List.getElem?_set_self hil,hk⟩))
  ·exact .inr (.inr (.inr ⟨j,z,by grind,hk⟩))
theorem Leaves.put (h:IsQ w base lo pb mb n np q v T H) {i:Nat} {x:Hd} (hx:H[i]? =some x) {t:Nat} {M:List En} (hq:IsQ w' base lo pb mb n np q v (T+1) (H.set i (x.to t M))) (hf:Fr (fun k=>k=mb∨x.own k) w w') {G:List (List En)} (hG:G=(Ms H).set i M):Leaves w w' base lo pb mb n np q v T H G:=by
 refine⟨⟨_,hq,?_,own_set' hx t M⟩,hf.wide ?_⟩
 ·rw[Ms_set,hG];rfl
 ·rintro k _ (e|e)
  ·exact .inr (.inl e)
  ·exact .inr (.inr (.inr ⟨i,x,hx,e⟩))
theorem pput_no (h:IsQ w base lo pb mb n np q v T H) (p id:Int) (k:Ke.K) (hno:(p<0∨(np:Int)≤p)∨Bad n id k):
  vQ 96 #[vPt pb,vI6 p,vI6 id,.agg (vKy k)] w (vI6 2):=by
 have HX:=veil (boxP h k)
 have hA0:Below (w.heap.size+1) (w.alloc (.cells (vKy k) 120)) (w.alloc (.cells (vKy k) 120)):=bzR
 obtain⟨hQ0,_,hz0,hw0⟩:=boxP h k _ hA0
 have HW0:=veil hw0
 have HHAS:=veil (phas_ok hQ0.p p)
 have HR:=veil (fun W=>Ke.right_ok W k)
 have c2:=hQ0.p.c2
 have hcs:decide (0≤p∧p<(np:Int))=false∨(decide (0≤p∧p<(np:Int))=true∧id<0)∨(decide (0≤p∧p<(np:Int))=true∧ ¬id<0∧(n:Int)≤id)∨(decide (0≤p∧p<(np:Int))=true∧ ¬id<0∧ ¬(n:Int)≤id∧Ke.rightK k=false):=by
  by_cases q0:0≤p∧p<(np:Int)
  ·right
   rw[decide_eq_true q0]
   unfold Bad at hno
   grind
  grind
 clear h hno hQ0 hA0
 generalize decide (0≤p∧p<(np:Int))=bh at*
 rcases hcs with rfl|⟨rfl,h1⟩|⟨rfl,h1,h2⟩|⟨rfl,h1,h2,h3⟩
 ·refine ge ?_
  go_wp2_with (go_at_call 147;refine cS HHAS.out ?_)
  go_ret
  simp_all
 ·refine ge ?_
  go_wp2_with (go_at_call 147;refine cS HHAS.out ?_)
  go_ret
  simp_all
 ·refine ge ?_
  go_wp2_with (go_at_call 147;refine cS HHAS.out ?_)
  go_ret
  simp_all
 ·rw[h3] at HR
  refine ge ?_
  go_wp2_with (first
   |(go_at_call 147;refine cS HHAS.out ?_)
   |(go_at_call 129;refine(HR.out _).mono ?_;rintro e w2 ⟨rfl,hb2⟩;have HB2:=veil (HW0.out.trans (hb2.mono HW0.out.size));clear hb2))
  go_ret
  exact⟨rfl,HB2.out⟩
theorem pput_known (h:IsQ w base lo pb mb n np q v T H) (p:Nat) (hp:p<np) (id:Nat) (hi:id<n) (k:Ke.K) (hr:Ke.rightK k=true) (hw:(whereF n H 0 (id:Int)).isSome=true):
  vQ 96 #[vPt pb,vI6 (p:Int),vI6 (id:Int),.agg (vKy k)] w (vI6 5):=by
 have hn1:=h.p.n1
 have HX:=veil (boxP h k)
 have hA0:Below (w.heap.size+1) (w.alloc (.cells (vKy k) 120)) (w.alloc (.cells (vKy k) 120)):=bzR
 have HA:=veil hA0
 obtain⟨hQ0,_,hz0,hw0⟩:=boxP h k _ hA0
 have HHAS:=veil (phasY hQ0.p p hp)
 have HR:=veil (fun W=>by have:=Ke.right_ok W k;rw[hr] at this;exact this)
 have c2:=hQ0.p.c2
 have wfi:=wf_nat (i:=id) (by omega)
 have i0: ¬(id:Int)<0:=by omega
 have i1: ¬(n:Int)≤(id:Int):=by omega
 have i2:(id:Int)<(n:Int):=by omega
 have HWS:=veil hw
 clear h hQ0 hA0 hw
 refine ge ?_
 go_wp2_with (first
  |(go_at_call 147;refine cS HHAS.out ?_)
  |(go_at_call 129;refine(HR.out _).mono ?_;rintro e w2 ⟨rfl,hb2⟩;have HB2:=veil (HA.out.trans (hb2.mono hz0));obtain⟨hQ2,_,hz2,hbw⟩:=HX.out _ HB2.out;have HBW:=veil hbw;have hl2:=hQ2.p.map.look id wfi;rw[HWS.out] at hl2;generalize (whereF n H 0 (id:Int)).getD 0=ci at hl2;have c21:=hQ2.p.c1;clear hQ2 hb2 hbw))
 go_ret
 exact⟨rfl,HBW.out⟩
theorem pput_all (h:IsQ w base lo pb mb n np q v T H) (hT:T≤1000000000) (p id:Int) (k:Ke.K) (hk:k.ok):
  vCa 96 #[vPt pb,vI6 p,vI6 id,.agg (vKy k)] w fun e w'=>e= .returned (vI6 (pputC np n H p id k))∧Leaves w w' base lo pb mb n np q v T H (pputG np n q H p id k):=by
 unfold pputG pputC
 by_cases hno:(p<0∨(np:Int)≤p)∨Bad n id k
 ·rw[if_pos hno,if_neg (by decide)]
  refine(pput_no h p id k hno).mono ?_
  rintro e w' ⟨rfl,hb⟩
  exact⟨rfl,Leaves.same h hb⟩
 ·rw[if_neg hno]
  have hnb: ¬Bad n id k:=fun q=>hno (.inr q)
  rcases bad_cases n [] id k with hb|⟨i,rfl,hi,hr,_⟩
  ·exact absurd hb hnb
  obtain⟨p,rfl⟩:=Int.eq_ofNat_of_zero_le (show 0≤p by omega)
  have hp:p<np:=by omega
  cases hw:whereF n H 0 (i:Int) with
  |some c=>
   rw[if_pos mK,if_neg (by decide)]
   refine(pput_known h p hp i hi k hr (by grind)).mono ?_
   rintro e w' ⟨rfl,hb⟩
   exact⟨rfl,Leaves.same h hb⟩
  |none=>
   rw[if_neg (by simp),if_pos rfl]
   obtain⟨g,cap,rfl,_⟩:=h.p.rows
   obtain⟨x,hx⟩:=h.p.at (i:=p) (by omega)
   obtain⟨y,hy⟩:=h.p.at (i:=np) (by omega)
   have hfit:=IsS.fit (h.p.sets.it p x hx)
   have hmo:moP np n q p=min q n:=by unfold moP;grind
   rw[hmo] at hfit
   have e1:(p:Int).toNat=p:=rfl
   rw[e1]
   unfold aPut
   rw[MM_at hx]
   by_cases hl:x.M.length<min q n
   ·rw[if_pos hl,MM_at hx]
    refine(pput_here h hT p hp hx i hi k hr hk hw (by omega)).mono ?_
    rintro e w' ⟨rfl,hq,hf⟩
    exact⟨rfl,Leaves.put h hx hq hf rfl⟩
   ·rw[if_neg hl,MM_at hy]
    refine(pput_over h hT p hp hx hy i hi k hr hk hw (by omega)).mono ?_
    rintro e w' ⟨rfl,hq,hf⟩
    exact⟨rfl,Leaves.put h hy hq hf rfl⟩
end
section
variable {w w' wa wb:World} {base lo pb mb n np q T g cap:Nat} {v:Value} {H:List Hd}
theorem pchange_in (h:IsQ w base lo pb mb n np q v T H) (hT:T≤1000000000) (id:Int) (k:Ke.K) (hk:k.ok) {i:Nat} {x:Hd} (hx:H[i]? =some x)
  (hs: ∀W,IsP W base lo pb mb n np q v H→vQ 134 #[vPt pb,vI6 id] W (vPt x.sb)):
  vCa 82 #[vPt pb,vI6 id,.agg (vKy k)] w fun e w'=>e= .returned (vI6 (chgC n x.M id k))∧(∃t,t≤x.turn+1∧(x.to t (chgL n x.M id k)).is w' n (moP np n q i))∧Fr x.own w w':=by
 have HX:=veil (boxP h k)
 have hA0:Below (w.heap.size+1) (w.alloc (.cells (vKy k) 120)) (w.alloc (.cells (vKy k) 120)):=bzR
 have HA:=veil hA0
 obtain⟨hQ0,⟨k0,k1,k2⟩,hz0,hw0⟩:=boxP h k _ hA0
 have HSET:Hid (∀W,Below (w.heap.size+1) (w.alloc (.cells (vKy k) 120)) W→vCa 134 #[vPt pb,vI6 id] W fun e w'=>e= .returned (vPt x.sb)∧Below (w.heap.size+1) (w.alloc (.cells (vKy k) 120)) w'):=fun W hW=>by
  obtain⟨hQ,_,hz,_⟩:=boxP h k W hW
  grind[IsQ.p,Calls.mono,RowKit.Below.trans,RowKit.Below.mono]
 have HCHG:Hid (∀W,Below (w.heap.size+1) (w.alloc (.cells (vKy k) 120)) W→vCa 135 #[vPt x.sb,vI6 id,.agg (vKy k)] W fun e w'=>e= .returned (vI6 (chgC n x.M id k))∧(w'.cell? (vA0 w.heap.size)=some (.bool k.e)∧w'.cell? (vAt w.heap.size 1)=some (vU6 k.d)∧w'.cell? (vAt w.heap.size 2)=some (vU8 k.l))∧(∃t,t≤x.turn+1∧(x.to t (chgL n x.M id k)).is w' n (moP np n q i))∧Fr x.own w w'):=fun W hW=>by
  obtain⟨hQ,⟨k0,k1,k2⟩,hz,hb⟩:=boxP h k W hW
  have hbl:=(h.p.sets.it i x hx).blocks
  have nb: ¬x.own w.heap.size:=fun q=>by grind
  refine(schange_all (hQ.p.sets.it i x hx) (by have:=h.tn i x hx;omega) id k hk).mono ?_
  rintro e w1 ⟨rfl,ht,hf⟩
  have hf':Fr x.own W w1:=hf
  exact⟨rfl,⟨(hf'.cell (a:=(vA0 w.heap.size)) (by grind) nb).trans k0,(hf'.cell (a:=(vAt w.heap.size 1)) (by grind) nb).trans k1,(hf'.cell (a:=(vAt w.heap.size 2)) (by grind) nb).trans k2⟩,ht,(Fr.of_below' hb).trans hf'⟩
 generalize chgC n x.M id k=cc at*
 clear h hQ0 hA0 hs hx hw0
 refine ge ?_
 go_wp2
 go_region_held3 (fun w'=>w'.cell? (vA0 w.heap.size)=some (.bool k.e)∧w'.cell? (vAt w.heap.size 1)=some (vU6 k.d)∧w'.cell? (vAt w.heap.size 2)=some (vU8 k.l))
  (first
   |exact S3.out
   |exact(by grind)
   |go_keep)
  (first
   |(go_at_call 134;refine(HSET.out _ (by exact below_post HA.out rfl rfl rfl rfl)).mono ?_;rintro e w1 ⟨rfl,hb1⟩;have HB1:=veil hb1;obtain⟨hQ1,⟨k10,k11,k12⟩,hz1,_⟩:=HX.out _ HB1.out;clear hQ1 hb1)
   |(go_at_call 135;refine(HCHG.out _ (by grind[RowKit.Hid.out])).mono ?_;rintro e w3 ⟨rfl,hs3,ht3,hf3⟩;have S3:=veil hs3;have HT3:=veil ht3;have HF3:=veil hf3;clear hs3 ht3 hf3))
 go_wp2
 go_ret
 exact⟨rfl,HT3.out,HF3.out⟩
theorem chgL_has (n:Nat) (M:List En) (id:Int) (k:Ke.K) (j:Nat):(keyOf (chgL n M id k) j).isSome=(keyOf M j).isSome:=by
 unfold chgL
 split
 ·rename_i hc
  split
  ·rfl
  ·rw[Bool.eq_iff_iff,has_put,has_cut]
   grind[chgC]
 ·rfl
theorem chgL_len (n:Nat) {M:List En} (hn:(M.map (·.1)).Nodup) (id:Int) (k:Ke.K):(chgL n M id k).length=M.length:=by
 unfold chgL
 split
 ·rename_i hc
  split
  ·rfl
  ·unfold chgC at hc
   split at hc
   ·cases hc
   ·split at hc
    ·rename_i hs
     obtain⟨k',hk'⟩:=Option.isSome_iff_exists.1 hs
     have:=len_cut hn ((keyOf_some hn).1 hk')
     rw[len_put]
     omega
    omega
 ·rfl
theorem Leaves.kept (h:IsQ w base lo pb mb n np q v T H) {i:Nat} {x:Hd} (hx:H[i]? =some x) {M:List En} (hi: ∀j,(keyOf M j).isSome=(keyOf x.M j).isSome) (hl:M.length=x.M.length) (ht: ∃t,t≤x.turn+1∧(x.to t M).is w' n (moP np n q i)) (hf:Fr x.own w w'):Leaves w w' base lo pb mb n np q v T H ((Ms H).set i M):=by
 obtain⟨t,ht,hy⟩:=ht
 obtain⟨u1,u2⟩:=where_same (n:=n) (y:=x.to t M) h.un hx hi
 have hs:=sumH_set (y:=x.to t M) hx
 have e:sumH (H.set i (x.to t M))=sumH H:=by
  have:(x.to t M).M.length=M.length:=rfl
  omega
 have hsep:=h.p.sep i x hx
 obtain⟨a,b⟩:=h.turned hx ht hf hy (Fr.refl _ _) u1 (by
  rw[u2,e]
  exact h.p.map.block (hf.block _ h.p.map.lt (by grind)))
 exact Leaves.put h hx a b rfl
theorem set_same {G:List (List En)} {i:Nat} {M:List En} (h:G[i]? =some M):G.set i M=G:=by
 apply List.ext_getElem?
 grind
theorem where_at (h:IsQ w base lo pb mb n np q v T H) {id c:Int} (hw:whereF n H 0 id=some c): ∃(i:Nat) (x:Hd),H[i]? =some x∧c=(i:Int)∧aOf n H id=i∧MM H i=x.M∧0≤id∧id<(n:Int)∧(keyOf x.M id.toNat).isSome=true:=by
 grind[whereF_inv,MM_at,aOf]
theorem pchange_all (h:IsQ w base lo pb mb n np q v T H) (hT:T≤1000000000) (id:Int) (wfi:(Lit.int .i64 id).wf=true) (k:Ke.K) (hk:k.ok):
  vCa 82 #[vPt pb,vI6 id,.agg (vKy k)] w fun e w'=>e= .returned (vI6 (pchgC n H id k))∧Leaves w w' base lo pb mb n np q v T H (pchgG n H id k):=by
 have hn1:=h.p.n1
 cases hw:whereF n H 0 id with
 |some c=>
  obtain⟨i,x,hx,rfl,ha,hm,h1,h2,h3⟩:=where_at h hw
  have hc:pchgC n H id k=chgC n x.M id k:=by unfold pchgC chgC;grind
  refine(pchange_in h hT id k hk hx (fun W hW=>(pset_at hW id wfi i x hx hw).mono (by grind[bzR]))).mono ?_
  rintro e w' ⟨rfl,ht,hf⟩
  refine⟨by rw[hc],?_⟩
  have hL:=Leaves.kept h hx (chgL_has n x.M id k) (chgL_len n (IsS.nd (h.p.sets.it i x hx)) id k) ht hf
  have e:pchgG n H id k=(Ms H).set i (chgL n x.M id k):=by
   unfold pchgG
   rw[ha,hm,hc]
   split
   ·rfl
   ·rename_i q
    have:chgL n x.M id k=x.M:=by unfold chgL;grind
    rw[this,set_same (Ms_at hx)]
  rw[e]
  exact hL
 |none=>
  obtain⟨x,hx⟩:=h.p.at (i:=np) (by omega)
  have hko: ∀j:Nat,id=(j:Int)→j<n→keyOf x.M j=none:=fun j e hj=>whereF_no (by grind) hj hx
  have hc:pchgC n H id k=chgC n x.M id k:=by
   unfold pchgC chgC
   rw[hw]
   by_cases hb:Bad n id k
   ·grind
   ·rw[if_neg hb,if_neg hb]
    unfold Bad at hb
    grind
  have hne: ¬pchgC n H id k=0:=by
   unfold pchgC
   grind
  refine(pchange_in h hT id k hk hx (fun W hW=>pset_no hW id wfi x hx hw)).mono ?_
  rintro e w' ⟨rfl,ht,hf⟩
  refine⟨by rw[hc],?_⟩
  have hL:=Leaves.kept h hx (chgL_has n x.M id k) (chgL_len n (IsS.nd (h.p.sets.it np x hx)) id k) ht hf
  have e:pchgG n H id k=(Ms H).set np (chgL n x.M id k):=by
   unfold pchgG
   rw[if_neg hne]
   have:chgL n x.M id k=x.M:=by unfold chgL;grind
   rw[this,set_same (Ms_at hx)]
  rw[e]
  exact hL
theorem pbest_all (h:IsQ w base lo pb mb n np q v T H) (p d:Int) (hd:0≤d∧d<18446744073709551616):
  vQ 118 #[vPt pb,vI6 p,vU6 d] w (.tuple #[vI6 (bI H (bb np H p d)),.agg (vKy (bK H (bb np H p d))),vI6 (bA (bb np H p d)),.bool (bb np H p d).isSome]):=by
 unfold bb
 by_cases hp:0≤p∧p<(np:Int)
 ·rw[if_pos hp]
  obtain⟨p,rfl⟩:=Int.eq_ofNat_of_zero_le hp.1
  obtain⟨d,rfl⟩:=Int.eq_ofNat_of_zero_le hd.1
  obtain⟨g,cap,rfl,_⟩:=h.p.rows
  exact pbest_ok h.p p d (by omega) (by omega)
 ·rw[if_neg hp]
  refine pbest_no w _ p d (fun W hW=> ?_)
  have:=phas_ok (h.below hW).p p
  grind
end
theorem ptake_no (w : World) (a : Option Addr) (p d : Int) (hh : ∀ W, vBw w W → vQ 118 #[.pointer a, vI6 p, vU6 d] W (.tuple #[vI6 0, .agg #[.bool false, vU6 0, vU8 0], vI6 0, .bool false])) :
  vQ 122 #[.pointer a, vI6 p, vU6 d] w (.tuple #[vI6 0, .agg #[.bool false, vU6 0, vU8 0], vI6 0, .bool false]) := by
 have hbB : vBw w (w.alloc (.cells #[.bool false, vU6 0, vU8 0] 120)) := bzA
 have HBEST := veil (hh _ hbB)
 have HK : Hid (∀ W, Below (w.alloc (.cells #[.bool false, vU6 0, vU8 0] 120)).heap.size (w.alloc (.cells #[.bool false, vU6 0, vU8 0] 120)) W →
   (∀ j, W.frozen? (vAt w.heap.size j) = false) ∧ W.cell? (vA0 w.heap.size) = some (.bool false) ∧ W.cell? (vAt w.heap.size 1) = some (vU6 0) ∧ W.cell? (vAt w.heap.size 2) = some (vU8 0) ∧ (key3 W w.heap.size ⟨false, 0, 0⟩).heap[w.heap.size]? = some (.cells #[.bool false, vU6 0, vU8 0] 120 (0, 0)) ∧ vBw w (key3 W w.heap.size ⟨false, 0, 0⟩)) := fun W hW => by
  have hblk := (hW.block _ (by simp)).trans (World.alloc_heap_new w _)
  have hbw := hbB.trans (hW.mono hbB.size)
  have hfk := fr_key3 W w.heap.size ⟨false, 0, 0⟩
  exact ⟨fun j => (blk_cell hblk j).2, (blk_cell hblk 0).1, (blk_cell hblk 1).1, (blk_cell hblk 2).1, blk_key3 (k0 := ⟨false, 0, 0⟩) hblk, hbw.trans (hfk.below hbw.size (by simp))⟩
 clear hh hbB
 refine ge ?_
 go_wp2_with (first
  | (go_at_call 118; refine (HBEST.out).mono ?_; rintro e w1 ⟨rfl, hb1⟩; obtain ⟨f1, k0, k1, k2, hblk, hB1⟩ := HK.out w1 hb1; have f10 := f1 0; have f11 := f1 1; have f12 := f1 2; have HBLK := veil hblk; have HB1 := veil hB1; clear f1 hblk hB1 hb1))
 have hkk : (((w1.setCell (vA0 w.heap.size) (.bool false)).setCell (vAt w.heap.size 1) (vU6 0)).setCell (vAt w.heap.size 2) (vU8 0)) = key3 w1 w.heap.size ⟨false, 0, 0⟩ := rfl
 rw [hkk]
 generalize key3 w1 w.heap.size ⟨false, 0, 0⟩ = W2 at *
 have k20 := (blk_cell HBLK.out 0).1
 have k21 := (blk_cell HBLK.out 1).1
 have k22 := (blk_cell HBLK.out 2).1
 have f20 := (blk_cell HBLK.out 0).2
 have f21 := (blk_cell HBLK.out 1).2
 have f22 := (blk_cell HBLK.out 2).2
 clear k0 k1 k2 f10 f11 f12 hkk
 have HB3 := veil (blk_key3 (k0 := ⟨false, 0, 0⟩) (k1 := ⟨false, 0, 0⟩) HBLK.out)
 simp only [List.getElem?_toArray, List.getElem?_cons_zero, List.getElem?_cons_succ] at k20 k21 k22
 refine wp_region_noPanic ?_
 refine wp_region_held_drew (S := (fun w' => w'.cell? (vA0 w.heap.size) = some (.bool false) ∧ w'.cell? (vAt w.heap.size 1) = some (vU6 0) ∧ w'.cell? (vAt w.heap.size 2) = some (vU8 0))) (by rfl) ?_ (fun hHeld => ?_)
 ·simp_all
 refine st ?_
 repeat' first
  | refine dn ?_
  | refine tk ?_
  | refine rd ?_
  | exact opZ
  | refine opN ?_
  | refine opS ?_ ?_
  | (refine opY _ (fun K hK => ?_)
     go_simp
     refine hK.out _ _ ?_ (fun hHeld => ?_)
     ·exact ⟨(blk_cell (drew_heap HB3.out) 0).1, (blk_cell (drew_heap HB3.out) 1).1, (blk_cell (drew_heap HB3.out) 2).1⟩
     clear hK K
     try simp only [puX])
 refine ⟨?_⟩
 simp only [NoPanic]
 have HW3 := veil (fr_key3 W2 w.heap.size ⟨false, 0, 0⟩)
 have HB4 := veil (drew_heap HB3.out)
 have HF4 : Hid (Fr (fun j => j = w.heap.size) W2 (key3 W2 w.heap.size ⟨false, 0, 0⟩).drew) := ⟨HW3.out.os, HW3.out.tape, HW3.out.output, HW3.out.size, HW3.out.block⟩
 clear HB3 HW3 k20 k21 k22 f20 f21 f22 hHeld
 have hkk : (((W2.setCell (vA0 w.heap.size) (.bool false)).setCell (vAt w.heap.size 1) (vU6 0)).setCell (vAt w.heap.size 2) (vU8 0)).drew = (key3 W2 w.heap.size ⟨false, 0, 0⟩).drew := rfl
 rw [hkk]
 generalize (key3 W2 w.heap.size ⟨false, 0, 0⟩).drew = W4 at *
 have g0 := (blk_cell HB4.out 0).1
 have g1 := (blk_cell HB4.out 1).1
 have g2 := (blk_cell HB4.out 2).1
 simp at g0 g1 g2
 go_wp2
 refine bodyPost_ret (v := .tuple #[vI6 0, .agg #[.bool false, vU6 0, vU8 0], vI6 0, .bool false]) ?_ rfl ?_
 ·simp [results, Tryz.f122, go_sem, g0, g1, g2]
 refine ⟨rfl, HB1.out.trans (HF4.out.below HB1.out.size (by simp))⟩
section
variable {w w' wa wb:World} {base lo pb mb n np q T g cap:Nat} {v:Value} {H:List Hd}
theorem bst_at (H:List Hd): ∀(l:List Nat) (b:Option Nat),(∀c,b=some c→ ∃y M,MM H c=y::M)→ ∀c,l.foldl (bstep H) b=some c→ ∃y M,MM H c=y::M
 |[],b,h,c,hc=>h c hc
 |x::l,b,h,c,hc=>by
  refine bst_at H l (bstep H b x) (fun c' hc'=> ?_) c hc
  unfold bstep at hc'
  grind
theorem bb_at {p d:Int} {c:Nat} (h:bb np H p d=some c):(0≤p∧p<(np:Int))∧bst H (ords np p.toNat d.toNat)=some c∧ ∃x z M',H[c]? =some x∧x.M=z::M':=by
 unfold bb at h
 by_cases hp:0≤p∧p<(np:Int)
 ·rw[if_pos hp] at h
  obtain⟨y,M,e⟩:=bst_at H _ none (by simp) c h
  grind[MM]
 grind
theorem ptake_all (h:IsQ w base lo pb mb n np q v T H) (p d:Int) (hd:0≤d∧d<18446744073709551616):
  vCa 122 #[vPt pb,vI6 p,vU6 d] w fun e w'=>e=vRt #[vI6 (bI H (bb np H p d)),.agg (vKy (bK H (bb np H p d))),vI6 (bA (bb np H p d)),.bool (bb np H p d).isSome]∧Leaves w w' base lo pb mb n np q v T H (ptkG np H p d):=by
 unfold ptkG
 cases hbb:bb np H p d with
 |none=>
  refine(ptake_no w _ p d (fun W hW=> ?_)).mono ?_
  ·have:=pbest_all (h.below hW) p d hd
   rw[hbb] at this
   exact this
  ·rintro e w' ⟨rfl,hb⟩
   exact⟨rfl,Leaves.same h hb⟩
 |some c=>
  obtain⟨hp,hb,x,z,M',hx,hM⟩:=bb_at hbb
  obtain⟨p,rfl⟩:=Int.eq_ofNat_of_zero_le hp.1
  obtain⟨d,rfl⟩:=Int.eq_ofNat_of_zero_le hd.1
  obtain⟨g,cap,rfl,_⟩:=h.p.rows
  have e1:bI H (some c)=(z.1:Int):=by show tkI (MM H c)=_;rw[MM_at hx,hM];rfl
  have e2:bK H (some c)=z.2:=by show tkK (MM H c)=_;rw[MM_at hx,hM];rfl
  have e3:bA (some c)=(c:Int):=rfl
  rw[e1,e2,e3]
  refine(ptake_at h p d (by omega) (by omega) hb hx hM).mono ?_
  rintro e w' ⟨rfl,t,hq,hf⟩
  refine⟨rfl,Leaves.put h hx hq hf ?_⟩
  grind[MM_at]
end
def gh (G:List (List En)):List Hd:=G.map (fun M=>⟨0,0,0,0,0,0,M⟩)
theorem Ms_gh (G:List (List En)):Ms (gh G)=G:=by
 unfold Ms gh
 rw[List.map_map]
 exact List.map_id G
section
variable {H X:List Hd}
theorem pputC_eq (e:Ms H=Ms X) (np n:Nat) (p id:Int) (k:Ke.K):pputC np n H p id k=pputC np n X p id k:=by unfold pputC;rw[whereF_eq e]
theorem aPut_eq (e:Ms H=Ms X) (np n q p:Nat):aPut np n q H p=aPut np n q X p:=by unfold aPut;rw[MM_eq e]
theorem pputG_eq (e:Ms H=Ms X) (np n q:Nat) (p id:Int) (k:Ke.K):pputG np n q H p id k=pputG np n q X p id k:=by unfold pputG;rw[pputC_eq e,aPut_eq e,MM_eq e,e]
theorem pchgC_eq (e:Ms H=Ms X) (n:Nat) (id:Int) (k:Ke.K):pchgC n H id k=pchgC n X id k:=by unfold pchgC;rw[whereF_eq e]
theorem aOf_eq (e:Ms H=Ms X) (n:Nat) (id:Int):aOf n H id=aOf n X id:=by unfold aOf;rw[whereF_eq e]
theorem pchgG_eq (e:Ms H=Ms X) (n:Nat) (id:Int) (k:Ke.K):pchgG n H id k=pchgG n X id k:=by unfold pchgG;rw[pchgC_eq e,aOf_eq e,MM_eq e,e]
theorem bb_eq (e:Ms H=Ms X) (np:Nat) (p d:Int):bb np H p d=bb np X p d:=by unfold bb;rw[bst_eq e]
theorem ptkG_eq (e:Ms H=Ms X) (np:Nat) (p d:Int):ptkG np H p d=ptkG np X p d:=by unfold ptkG;rw[bb_eq e,MM_eq e,e]
end
def PQ (w:World) (O:Nat→Prop) (pb n np q T:Nat) (G:List (List En)):Prop:=
 ∃(base lo mb:Nat) (v:Value) (H:List Hd),IsQ w base lo pb mb n np q v T H∧Ms H=G∧ ∀k,OwnP pb mb v H k↔O k
section
variable {w w':World} {O:Nat→Prop} {pb n np q T:Nat} {G G':List (List En)}
theorem PQ.below (h:PQ w O pb n np q T G) (hb:vBw w w'):PQ w' O pb n np q T G:=by
 obtain⟨base,lo,mb,v,H,hQ,hG,hO⟩:=h
 exact⟨base,lo,mb,v,H,hQ.below hb,hG,hO⟩
theorem PQ.frame {S:Nat→Prop} (h:PQ w O pb n np q T G) (hf:Fr S w w') (hn: ∀k,O k→ ¬S k):PQ w' O pb n np q T G:=by
 obtain⟨base,lo,mb,v,H,hQ,hG,hO⟩:=h
 exact⟨base,lo,mb,v,H,hQ.frame hf (by grind),hG,hO⟩
theorem PQ.more (h:PQ w O pb n np q T G) {T':Nat} (ht:T≤T'):PQ w O pb n np q T' G:=by
 obtain⟨base,lo,mb,v,H,hQ,hG,hO⟩:=h
 exact⟨base,lo,mb,v,H,hQ.more ht,hG,hO⟩
theorem PQ.blocks (h:PQ w O pb n np q T G): ∀k,O k→k<w.heap.size:=by
 obtain⟨base,lo,mb,v,H,hQ,hG,hO⟩:=h
 exact fun k hk=>hQ.p.blocks k ((hO k).2 hk)
theorem PQ.len (h:PQ w O pb n np q T G):G.length=np+1:=by
 obtain⟨base,lo,mb,v,H,hQ,hG,hO⟩:=h
 rw[←hG,Ms_len];exact hQ.p.len
theorem PQ.un (h:PQ w O pb n np q T G):Un (gh G):=by
 obtain⟨base,lo,mb,v,H,hQ,hG,hO⟩:=h
 grind[Un_eq,Ms_gh,IsQ.un]
theorem PQ.np1 (h:PQ w O pb n np q T G):1≤np∧np≤64:=by
 obtain⟨base,lo,mb,v,H,hQ,hG,hO⟩:=h
 exact hQ.p.np1
theorem PQ.n1 (h:PQ w O pb n np q T G):1≤n∧n≤1024:=by
 obtain⟨base,lo,mb,v,H,hQ,hG,hO⟩:=h
 exact hQ.p.n1
theorem PQ.at {i:Nat} {M:List En} (h:PQ w O pb n np q T G) (hi:G[i]? =some M):(M.map (·.1)).Nodup∧(∀y∈M,y.1<n)∧M.length≤moP np n q i∧ ∀y∈M,Ke.rightK y.2=true:=by
 obtain⟨base,lo,mb,v,H,hQ,hG,hO⟩:=h
 rw[←hG] at hi
 simp only[Ms,List.getElem?_map] at hi
 cases hx:H[i]? with
 |none=>grind
 |some x=>
  rw[hx] at hi
  injection hi with hi
  subst hi
  have hs:=hQ.p.sets.it i x hx
  refine⟨IsS.nd hs,?_,IsS.fit hs,?_⟩
  ·obtain⟨R,L,hS,hI⟩:=id_S hs
   exact hI.rng hS
  ·obtain⟨R,L,hS,hI⟩:=id_S hs
   intro y hy
   have hy':y∈x.M:=hy
   rw[←hI.eq] at hy'
   rcases mem_all.1 hy' with ⟨d,s,_,h2⟩|⟨lv,_,_,h2⟩
   ·rw[h2];rfl
   ·rw[h2];rfl
theorem Leaves.pq {base lo mb:Nat} {v:Value} {H:List Hd} (hO: ∀k,OwnP pb mb v H k↔O k) (h:Leaves w w' base lo pb mb n np q v T H G):PQ w' O pb n np q (T+1) G∧Fr O w w':=by
 obtain⟨⟨H',hQ,hG,hO'⟩,hf⟩:=h
 exact⟨⟨base,lo,mb,v,H',hQ,hG,fun k=>(hO' k).trans (hO k)⟩,hf.wide (by grind)⟩
theorem PQ.put (h:PQ w O pb n np q T G) (hT:T≤1000000000) (p id:Int) (k:Ke.K) (hk:k.ok):
  vCa 96 #[vPt pb,vI6 p,vI6 id,.agg (vKy k)] w fun e w'=>e= .returned (vI6 (pputC np n (gh G) p id k))∧PQ w' O pb n np q (T+1) (pputG np n q (gh G) p id k)∧Fr O w w':=by
 obtain⟨base,lo,mb,v,H,hQ,rfl,hO⟩:=h
 have e:Ms (gh (Ms H))=Ms H:=Ms_gh _
 rw[pputC_eq e,pputG_eq e]
 exact(pput_all hQ hT p id k hk).mono (fun e w' h=>⟨h.1,h.2.pq hO⟩)
theorem PQ.change (h:PQ w O pb n np q T G) (hT:T≤1000000000) (id:Int) (wfi:(Lit.int .i64 id).wf=true) (k:Ke.K) (hk:k.ok):
  vCa 82 #[vPt pb,vI6 id,.agg (vKy k)] w fun e w'=>e= .returned (vI6 (pchgC n (gh G) id k))∧PQ w' O pb n np q (T+1) (pchgG n (gh G) id k)∧Fr O w w':=by
 obtain⟨base,lo,mb,v,H,hQ,rfl,hO⟩:=h
 have e:Ms (gh (Ms H))=Ms H:=Ms_gh _
 rw[pchgC_eq e,pchgG_eq e]
 exact(pchange_all hQ hT id wfi k hk).mono (fun e w' h=>⟨h.1,h.2.pq hO⟩)
theorem PQ.best (h:PQ w O pb n np q T G) (p d:Int) (hd:0≤d∧d<18446744073709551616):
  vQ 118 #[vPt pb,vI6 p,vU6 d] w (.tuple #[vI6 (bI (gh G) (bb np (gh G) p d)),.agg (vKy (bK (gh G) (bb np (gh G) p d))),vI6 (bA (bb np (gh G) p d)),.bool (bb np (gh G) p d).isSome]):=by
 obtain⟨base,lo,mb,v,H,hQ,rfl,hO⟩:=h
 grind[Ms_gh,bb_eq,bI_eq,bK_eq,pbest_all]
theorem PQ.take (h:PQ w O pb n np q T G) (p d:Int) (hd:0≤d∧d<18446744073709551616):
  vCa 122 #[vPt pb,vI6 p,vU6 d] w fun e w'=>e=vRt #[vI6 (bI (gh G) (bb np (gh G) p d)),.agg (vKy (bK (gh G) (bb np (gh G) p d))),vI6 (bA (bb np (gh G) p d)),.bool (bb np (gh G) p d).isSome]∧PQ w' O pb n np q (T+1) (ptkG np (gh G) p d)∧Fr O w w':=by
 obtain⟨base,lo,mb,v,H,hQ,rfl,hO⟩:=h
 have e:Ms (gh (Ms H))=Ms H:=Ms_gh _
 rw[bb_eq e,bI_eq e,bK_eq e,ptkG_eq e]
 exact(ptake_all hQ p d hd).mono (fun e w' h=>⟨h.1,h.2.pq hO⟩)
end
theorem pnew_pq (np n q:Nat) (w:World) (h1:1≤np∧np≤64) (h2:1≤n∧n≤1024) (h3:1≤q∧q≤256):
  vCa 36 #[vI6 np,vI6 n,vI6 q] w fun e w'=> ∃O,e= .returned (vPt (w.heap.size+1))∧PQ w' O (w.heap.size+1) n np q 0 (List.replicate (np+1) [])∧(∀k,O k→w.heap.size≤k)∧vBw w w':=by
 refine(pnew_ok np n q w h1.1 h1.2 h2.1 h2.2 h3.1 h3.2).mono ?_
 rintro e w1 ⟨v,H,rfl,hl,hB⟩
 have hQ:=hB.isQ hl h2 h1 h3
 refine⟨OwnP (w.heap.size+1) w.heap.size v H,rfl,⟨_,_,_,v,H,hQ,?_,fun _=>Iff.rfl⟩,?_,hB.bel⟩
 ·apply List.ext_getElem?
  intro i
  rw[List.getElem?_replicate]
  unfold Ms
  rw[List.getElem?_map]
  split
  ·rename_i hi
   have hx:H[i]? =some (H[i]'(by omega)):=List.getElem?_eq_getElem _
   rw[hx]
   exact congrArg some (hB.fresh i _ hx).1
  grind
 ·rintro k (e|e|e|⟨i,x,hx,hk⟩)
  ·omega
  ·omega
  ·have:=(Dc.own_ge hB.row k e).1;omega
  ·have:=hB.sets.low i x hx k hk;omega
end Go.Proofs.YtnmhcgpnhlhcgaaGreatDoor
namespace Go.Proofs.YtnmhcgpnhlhcgaaGreatDoor
open Go.RowKit Go.Lib Go.Deep Go.ChangeShapes Go.WideShapes Go.ChangeAt
section
variable {H:Type} {enc:TypeId×Value→H} {w:World} {base:Nat} {spare:Nat→Bool} {held:Bool}
end
end Go.Proofs.YtnmhcgpnhlhcgaaGreatDoor

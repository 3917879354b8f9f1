/- YtdbailcdlngemaaGreatDoorHg: of the texts Na Nb Nc what is wanted. -/
import Derived.Test.YtdbailcdlngemaaGreatDoorH0
import Derived.Test.YtdbailcdlngemaaGreatDoorHb
import Derived.Test.YtdbailcdlngemaaGreatDoorHz
import Derived.Deep.RegionHeld3
import Derived.Maps.AppendAt
import Derived.OrdersHeld
import Derived.Carry
import Derived.RangeFuncNested
import Derived.RangeFuncBound
import Derived.RangeFuncCalls
import Derived.RangeFuncLeaves
import Derived.RangeFuncBox
import Derived.Shelf.Abstract
import Derived.Shelf.RegionOpen
import Derived.WalkKit
import Derived.OwnWalkIn
import Derived.TacticsInMore
import Derived.LoopNIn
import Derived.LoopIn
import Derived.Scope
import Derived.ControlIn
import Derived.ProofKit
import Derived.OpenShut
import Derived.RowKit3
import Derived.Laws.IdiomArrays
import Derived.WideShapes
import Derived.ChangeOld
import Derived.Deep.Strs
import Derived.Deep.Slices
set_option maxHeartbeats 16000000
set_option maxRecDepth 100000
set_option linter.unusedVariables false
set_option linter.unusedSimpArgs false
namespace Go.Proofs.YtdbailcdlngemaaGreatDoor
open Go.RowKit Go.Lib
attribute [local go_sem ↓] Go.wp_at_zero Go.wp_at_succ
structure Hd where
 sb:Nat
 qb:Nat
 gq:Nat
 hb:Nat
 gh:Nat
 turn:Nat
 M:List En
def Hd.own (h:Hd) (k:Nat):Prop:=gx h.sb h.qb h.gq h.hb h.gh k
def Hd.is (h:Hd) (w:World) (n most:Nat):Prop:=cT w h.sb h.qb h.gq h.hb h.gh n most h.turn h.M
def gu (H:List Hd):List Value:=H.map (fun h=> .pointer (some ⟨h.sb,0,none⟩))
structure Sets (w:World) (lo n:Nat) (mo:Nat→Nat) (H:List Hd):Prop where
 it: ∀(i:Nat) (h:Hd),H[i]? =some h→h.is w n (mo i)
 low: ∀(i:Nat) (h:Hd),H[i]? =some h→ ∀k,h.own k→lo≤k
 apart: ∀(i j:Nat) (h h':Hd),H[i]? =some h→H[j]? =some h'→i≠j→ ∀k,h.own k→ ¬h'.own k
section
variable {w w':World} {lo n:Nat} {mo:Nat→Nat} {H:List Hd}
theorem Hd.is.blocks {h:Hd} {most:Nat} (q:h.is w n most): ∀k,h.own k→k<w.heap.size:=cT.blocks q
theorem Sets.nil (w:World) (lo n:Nat) (mo:Nat→Nat):Sets w lo n mo []:=⟨by simp,by simp,by simp⟩
theorem Sets.below (h:Sets w lo n mo H) (hb:Below w.heap.size w w'):Sets w' lo n mo H:=⟨fun i x hx=>cT.below (h.it i x hx) hb,h.low,h.apart⟩
theorem Sets.frame {S:Nat→Prop} (h:Sets w lo n mo H) (hf:Fr S w w') (hn: ∀(i:Nat) (x:Hd),H[i]? =some x→ ∀k,x.own k→ ¬S k):Sets w' lo n mo H:=⟨fun i x hx=>cT.frame (h.it i x hx) hf (hn i x hx),h.low,h.apart⟩
theorem Sets.snoc (h:Sets w lo n mo H) {x:Hd} (hx:x.is w n (mo H.length)) (h1: ∀k,x.own k→lo≤k) (h2: ∀(i:Nat) (y:Hd),H[i]? =some y→ ∀k,y.own k→ ¬x.own k):Sets w lo n mo (H++[x]):=by
 have key: ∀i y,(H++[x])[i]? =some y→H[i]? =some y∨(i=H.length∧y=x):=by
  intro i y hy
  rcases Nat.lt_or_ge i H.length with q|q
  ·rw[List.getElem?_append_left q] at hy
   exact .inl hy
  ·rw[List.getElem?_append_right q] at hy
   rcases Nat.eq_zero_or_pos (i-H.length) with e|e
   ·rw[e] at hy
    simp at hy
    exact .inr ⟨by omega,hy.symm⟩
   ·rw[List.getElem?_eq_none (by simp;omega)] at hy
    cases hy
 refine⟨fun i y hy=> ?_,fun i y hy=> ?_,fun i j y z hy hz hne=> ?_⟩
 ·rcases key i y hy with q|⟨rfl,rfl⟩
  ·exact h.it i y q
  ·exact hx
 ·rcases key i y hy with q|⟨rfl,rfl⟩
  ·exact h.low i y q
  ·exact h1
 ·rcases key i y hy with q|⟨rfl,rfl⟩
  ·rcases key j z hz with q'|⟨rfl,rfl⟩
   ·exact h.apart i j y z q q' hne
   ·exact h2 i y q
  ·rcases key j z hz with q'|⟨e,rfl⟩
   ·exact fun k hk hk'=>h2 j z q' k hk' hk
   ·exact absurd e.symm hne
theorem Sets.set (h:Sets w lo n mo H) {i:Nat} {x y:Hd} (hx:H[i]? =some x) (hf:Fr x.own w w') (hy:y.is w' n (mo i)) (he: ∀k,y.own k↔x.own k):Sets w' lo n mo (H.set i y):=by
 have hi:i<H.length:=(List.getElem?_eq_some_iff.1 hx).1
 have key: ∀j z,(H.set i y)[j]? =some z→(j=i∧z=y)∨(j≠i∧H[j]? =some z):=by
  intro j z hz
  rcases Nat.decEq j i with q|q
  ·rw[List.getElem?_set_ne (fun e=>q e.symm)] at hz
   exact .inr ⟨q,hz⟩
  ·subst q
   rw[List.getElem?_set_self hi] at hz
   exact .inl ⟨rfl,(Option.some.inj hz).symm⟩
 refine⟨fun j z hz=> ?_,fun j z hz k hk=> ?_,fun j l z z' hz hz' hne k hk=> ?_⟩
 ·rcases key j z hz with ⟨rfl,rfl⟩|⟨q,q'⟩
  ·exact hy
  ·exact cT.frame (h.it j z q') hf (h.apart j i z x q' hx q)
 ·rcases key j z hz with ⟨rfl,rfl⟩|⟨q,q'⟩
  ·exact h.low j x hx k ((he k).1 hk)
  ·exact h.low j z q' k hk
 ·rcases key j z hz with ⟨rfl,rfl⟩|⟨q,q'⟩
  ·rcases key l z' hz' with ⟨rfl,rfl⟩|⟨r,r'⟩
   ·exact absurd rfl hne
   ·exact h.apart j l x z' hx r' hne k ((he k).1 hk)
  ·rcases key l z' hz' with ⟨rfl,rfl⟩|⟨r,r'⟩
   ·exact fun q2=>h.apart j l z x q' hx hne k hk ((he k).1 q2)
   ·exact h.apart j l z z' q' r' hne k hk
end
structure rR (w0 wr:World) (n:Nat) (mo:Nat→Nat) (v:Value) (H:List Hd):Prop where
 blk:wr.heap[w0.heap.size+1]? =some (.cells #[v,.map (some w0.heap.size),.int .i64 (n:Int)] 140 (0,0))
 row:wr.ownsRow (w0.heap.size+2) 141 1 v H.length (gu H)
 sets:Sets wr (w0.heap.size+2) n mo H
 fresh: ∀(i:Nat) (h:Hd),H[i]? =some h→h.M=[]∧h.turn=0
 map:ij wr w0.heap.size (fun _=>none) 0
 sep: ∀(i:Nat) (h:Hd),H[i]? =some h→ ∀k,h.own k→v.ownBlock≠some k
 dO:Below w0.heap.size w0 wr
 big:w0.heap.size+2≤wr.heap.size
theorem Dc.mD {w:World} {base:Nat} {e:TypeId} {size:Nat} {v:Value} {n:Nat} {xs:List Value} (h:w.ownsRow base e size v n xs): ∀k,v.ownBlock=some k→base≤k∧k<w.heap.size:=by
 intro k hk
 rcases h.2 with ⟨rfl,_⟩|⟨g,cap,cur,rfl,hb,hg,_⟩
 ·simp[Value.ownBlock] at hk
 ·simp[Value.ownBlock] at hk
  subst hk
  exact⟨hb,(Array.getElem?_eq_some_iff.1 hg).1⟩
section
variable {w0 wr w1 w3:World} {n:Nat} {mo:Nat→Nat} {v v':Value} {H:List Hd} {x:Hd}
theorem rR.cell (h:rR w0 wr n mo v H) {W:World} (hW:Below wr.heap.size wr W):W.cell? ⟨w0.heap.size+1,0,none⟩=some v:=by
 rw[hW.cell (p:=⟨w0.heap.size+1,0,none⟩) (by have:=h.big;show w0.heap.size+1<_;omega)]
 unfold World.cell?
 simp only[h.blk]
 rfl
theorem rR.Gh (h:rR w0 wr n mo v H) {W:World} (hW:Below wr.heap.size wr W):W.ownsRow (w0.heap.size+2) 141 1 v H.length (gu H):=
 Dc.tI h.row (Dc.Fr.aC (S:=fun _=>False) hW) (fun _ _ _ q=>q)
theorem rR.step (h:rR w0 wr n mo v H) (hx:x.is w1 n (mo H.length)) (hx0:x.M=[]∧x.turn=0) (ho: ∀k,x.own k→wr.heap.size≤k) (hb:Below wr.heap.size wr w1)
  (o:Obj) (hr:w3.ownsRow (w0.heap.size+2) 141 1 v' (H.length+1) (gu H++[.pointer (some ⟨x.sb,0,none⟩)])) (hg:(w1.alloc o).grownBy w3 v.ownBlock) (hat:v'.ownBlock=v.ownBlock∨v'.ownBlock=some (w1.alloc o).heap.size):
  w3.cell? ⟨w0.heap.size+1,0,none⟩=some v∧w3.frozen? ⟨w0.heap.size+1,0,none⟩=false∧rR w0 (w3.setCell ⟨w0.heap.size+1,0,none⟩ v') n mo v' (H++[x]):=by
 have hbig:=h.big
 have hbs:=hb.size
 have hz:(w1.alloc o).heap.size=w1.heap.size+1:=by simp
 have hvb:=Dc.mD h.row
 have hxs:=hx.blocks
 have hf1:Fr (fun k=>some k=v.ownBlock) wr (w1.alloc o):=Fr.aC (hb.alloc hbs o)
 have hf2:Fr (fun k=>some k=v.ownBlock) (w1.alloc o) w3:=⟨hg.os,hg.tape,hg.output,hg.size,hg.block⟩
 have hf3:=hf1.trans hf2
 have hpn: ¬(some (w0.heap.size+1)=v.ownBlock):=fun e=>by have:=(hvb _ e.symm).1;omega
 have hmn: ¬(some w0.heap.size=v.ownBlock):=fun e=>by have:=(hvb _ e.symm).1;omega
 have hblk:w3.heap[w0.heap.size+1]? =some (.cells #[v,.map (some w0.heap.size),.int .i64 (n:Int)] 140 (0,0)):=by
  rw[hf3.block _ (by omega) hpn];exact h.blk
 have hv'ge:=Dc.mD hr
 have hv'pb:v'.ownBlock≠some (w0.heap.size+1):=fun e=>by have:=(hv'ge _ e).1;omega
 have hf4:Fr (fun k=>some k=v.ownBlock∨k=w0.heap.size+1) wr (w3.setCell ⟨w0.heap.size+1,0,none⟩ v'):=(hf3.wide (fun k _ q=> .inl q)).setCell (a:=⟨w0.heap.size+1,0,none⟩) (.inr rfl) _
 have hx3:Fr (fun k=>some k=v.ownBlock∨k=w0.heap.size+1) w1 (w3.setCell ⟨w0.heap.size+1,0,none⟩ v'):=((((Fr.refl _ _).alloc o).trans hf2).wide (fun k _ q=> .inl q)).setCell (a:=⟨w0.heap.size+1,0,none⟩) (.inr rfl) _
 refine⟨by unfold World.cell?;simp only[hblk];rfl,by unfold World.frozen?;simp only[hblk];rfl,?_⟩
 refine⟨Go.Joins.block_setCell hblk v',?_,?_,?_,?_,?_,?_,?_⟩
 ·rw[List.length_append]
  have e:gu (H++[x])=gu H++[.pointer (some ⟨x.sb,0,none⟩)]:=by unfold gu;rw[List.map_append];rfl
  rw[e]
  exact ownsRow_setCell_other hr hv'pb v'
 ·refine Sets.snoc (h.sets.frame hf4 ?_) (cT.frame hx hx3 ?_) (fun k hk=>by have:=ho k hk;omega) ?_
  ·rintro i y hy k hk (q|q)
   ·exact h.sep i y hy k hk q.symm
   ·have:=h.sets.low i y hy k hk;omega
  ·rintro k hk (q|q)
   ·have:=(hvb k q.symm).2;have:=ho k hk;omega
   ·have:=ho k hk;omega
  ·intro i y hy k hk hk'
   have:=(h.sets.it i y hy).blocks k hk
   have:=ho k hk'
   omega
 ·intro i y hy
  rcases Nat.lt_or_ge i H.length with q|q
  ·rw[List.getElem?_append_left q] at hy
   exact h.fresh i y hy
  ·rw[List.getElem?_append_right q] at hy
   rcases Nat.eq_zero_or_pos (i-H.length) with e|e
   ·rw[e] at hy
    simp at hy
    rw[←hy]
    exact hx0
   ·rw[List.getElem?_eq_none (by simp;omega)] at hy
    cases hy
 ·exact h.map.block (hf4.block _ (by omega) (by rintro(q|q);exact hmn q;omega))
 ·intro i y hy k hk e
  have hkl:k<w1.heap.size:=by
   rcases Nat.lt_or_ge i H.length with q|q
   ·rw[List.getElem?_append_left q] at hy
    have:=(h.sets.it i y hy).blocks k hk
    omega
   ·rw[List.getElem?_append_right q] at hy
    rcases Nat.eq_zero_or_pos (i-H.length) with e'|e'
    ·rw[e'] at hy
     simp at hy
     rw[←hy] at hk
     exact hxs k hk
    ·rw[List.getElem?_eq_none (by simp;omega)] at hy
     cases hy
  rcases hat with q|q
  ·rw[q] at e
   rcases Nat.lt_or_ge i H.length with r|r
   ·rw[List.getElem?_append_left r] at hy
    exact h.sep i y hy k hk e
   ·rw[List.getElem?_append_right r] at hy
    rcases Nat.eq_zero_or_pos (i-H.length) with e'|e'
    ·rw[e'] at hy
     simp at hy
     rw[←hy] at hk
     have:=ho k hk
     have:=(hvb k e).2
     omega
    ·rw[List.getElem?_eq_none (by simp;omega)] at hy
     cases hy
  ·rw[q] at e
   injection e with e
   omega
 ·exact h.dO.trans (hf4.below (by omega) (by
   rintro k (q|q)
   ·have:=(hvb k q.symm).1;omega
   ·omega))
 ·have:=hf4.size
  omega
end
theorem rG {P:Program} {e:TypeId} {z:Value} {n m:Nat} (h:(P.info? e).map (fun i=>(i.zero,i.size,i.bytes))=some (some z,n,m)): ∃i,P.info? e=some i∧i.zero=some z∧i.size=n∧i.bytes=m:=by
 cases hh:P.info? e with
 |none=>rw[hh] at h;cases h
 |some i=>
  rw[hh] at h
  simp at h
  exact⟨i,rfl,h.1,h.2.1,h.2.2⟩
theorem yq:(Tryz.prog.info? 141).map (fun i=>(i.zero,i.size,i.bytes))=some (some (.pointer none),1,8):=by kernel_rfl
theorem cA {P:Program} (w:World) {ops:Array Oper} {o:Oper} {a:Act} {K:Act→World→Prop} {Q:Exit→Act→World→Prop} {E:Prop} (hgd:o.guard=none) (s x:Operand) (t:TypeId)
  (ho:o.op= .call {callee:= .builtin .append,args:= #[s,x],argTypes:= #[t,t]})
  (base:Nat) (e:TypeId) (i:TypeInfo) (z:Value) (size bytes:Nat) (ht:P.underlying t=some (.slice e)) (hi:P.info? e=some i) (hz:i.zero=some z)
  (hsize:i.size=size) (hby:i.bytes=bytes) (hzs:z.cells.size=size) (hsz:0<size)
  (v:Value) (n:Nat) (xs:List Value) (hs:a.eval s=v) (hown:w.ownsRow base e size v n xs)
  (ad:Addr) (m c:Nat) (news:List Value) (hx:a.eval x= .slice (some ad) m c) (hl:news.length=m*size) (hnews: ∀j u,news[j]? =some u→w.cell? (ad.add j)=some u) (h1: ∀u∈news,u.oneCell'=true)
  (h63:n+m≤maxLen) (hbytes:(n+m)*bytes≤140737488355328) (hbase:base≤w.heap.size)
  (h: ∀v' w',w'.ownsRow base e size v' (n+m) (xs++news)→w.grownBy w' v.ownBlock→(v'.ownBlock=v.ownBlock∨v'.ownBlock=some w.heap.size)→K (a.put o.dst v') w'):
  if Region.wanted o (yielded ops a.tmps)=true then Oper.wp P o a w K Q else E:=by
 have hw:Region.wanted o (yielded ops a.tmps)=true:=by simp[Region.wanted,hgd]
 rw[if_pos hw]
 obtain⟨v',w',hr,h2,h3,h4,h5⟩:=run_append_own_at (P:=P) w base t o.type e i z size bytes ht hi hz hsize hby hzs hsz v n xs hown ad m c news hl hnews h1 h63 hbytes hbase
 unfold Oper.wp execOp
 simp only[ho,resolve,invoke,builtin,Sem.run_bind,Sem.run_pure,Result.andThen_ok,List.map_toArray,List.map_cons,List.map_nil,hs,hx,hr]
 exact h v' w' h2 h3 h5
theorem bQ {B:Nat} {w0 w w':World} (h:Below B w w') (a:w.heap=w0.heap) (b:w.os=w0.os) (c:w.tape=w0.tape) (d:w.output=w0.output):Below B w0 w':=
 ⟨h.os.trans b,h.tape.trans c,h.output.trans d,by rw[←a];exact h.size,fun k hk=>(h.block k hk).trans (by rw[a])⟩
def FC (w0 wr:World) (n:Nat) (mo:Nat→Nat) (a:Option Addr) (c:Nat) (H:List Hd) (most:Nat):Prop:=
 ∀(w1:World) (x:Hd),x.is w1 n most→x.M=[]∧x.turn=0→(∀k,x.own k→wr.heap.size≤k)→Below wr.heap.size wr w1→
  w1.cell? ⟨w0.heap.size+1,0,none⟩=some (.slice a H.length c)∧(∀o,(w1.alloc o).cell? ⟨w0.heap.size+1,0,none⟩=some (.slice a H.length c))∧
  Hid (∀W:World,W.heap=(w1.alloc (.cells #[.pointer (some ⟨x.sb,0,none⟩)] 141)).heap→W.ownsRow (w0.heap.size+2) 141 1 (.slice a H.length c) H.length (gu H))∧
  Hid (∀W:World,W.heap=(w1.alloc (.cells #[.pointer (some ⟨x.sb,0,none⟩)] 141)).heap→w0.heap.size+2≤W.heap.size)∧
  Hid (∀(W w3:World) (v':Value),W=w1.alloc (.cells #[.pointer (some ⟨x.sb,0,none⟩)] 141)→w3.ownsRow (w0.heap.size+2) 141 1 v' (H.length+1) (gu H++[.pointer (some ⟨x.sb,0,none⟩)])→W.grownBy w3 (Value.ownBlock (.slice a H.length c))→(v'.ownBlock=Value.ownBlock (.slice a H.length c)∨v'.ownBlock=some W.heap.size)→
   w3.cell? ⟨w0.heap.size+1,0,none⟩=some (.slice a H.length c)∧w3.frozen? ⟨w0.heap.size+1,0,none⟩=false∧rR w0 (w3.setCell ⟨w0.heap.size+1,0,none⟩ v') n mo v' (H++[x]))
theorem rR.after {w0 wr:World} {n:Nat} {mo:Nat→Nat} {a:Option Addr} {c:Nat} {H:List Hd} (h:rR w0 wr n mo (.slice a H.length c) H) (most:Nat) (hm:mo H.length=most):FC w0 wr n mo a c H most:=by
 intro w1 x hx hx0 ho hb
 have hba:=fun o=>hb.alloc hb.size o
 refine⟨h.cell hb,fun o=>h.cell (hba o),fun W hW=> ?_,fun W hW=> ?_,fun W w3 v' hW hr hg hat=> ?_⟩
 ·have:=h.Gh (hba (.cells #[.pointer (some ⟨x.sb,0,none⟩)] 141))
  refine⟨this.1,?_⟩
  rcases this.2 with q|⟨g,cap,cur,e,e1,e2,e3⟩
  ·exact .inl q
  ·exact .inr ⟨g,cap,cur,e,e1,by rw[hW];exact e2,e3⟩
 ·rw[hW]
  have:=h.big
  have:=(hba (.cells #[.pointer (some ⟨x.sb,0,none⟩)] 141)).size
  omega
 ·subst hW
  exact h.step (by rw[hm];exact hx) hx0 ho hb _ hr hg hat
def jV (np n q:Nat):Nat→Nat:=fun i=>if i<np then min q n else n
theorem pz (np n q:Nat) (w:World) (h1:1≤np) (h2:np≤64) (h3:1≤n) (h4:n≤1024) (h5:1≤q) (h6:q≤256):
  Calls Tryz.prog 29 #[.int .i64 np,.int .i64 n,.int .i64 q] w fun e w'=> ∃v H,e= .returned (.pointer (some ⟨w.heap.size+1,0,none⟩))∧H.length=np+1∧rR w w' n (jV np n q) v H:=by
 obtain⟨i0,hi0,hz0,hz1,hz2⟩:=rG yq
 have hmm:= @run_makeMap Tryz.prog
 have e1: ¬(np:Int)<1:=by omega
 have e2: ¬(64:Int)<(np:Int):=by omega
 have e3: ¬(n:Int)<1:=by omega
 have e4: ¬(1024:Int)<(n:Int):=by omega
 have e5: ¬(q:Int)<1:=by omega
 have e6: ¬(256:Int)<(q:Int):=by omega
 have HB0:Hid (rR w ((w.alloc (.map #[] 0)).alloc (.cells #[.slice none 0 0,.map (some w.heap.size),.int .i64 (n:Int)] 140)) n (jV np n q) (.slice none 0 0) []):=by
  have hz:(w.alloc (.map #[] 0)).heap.size=w.heap.size+1:=by simp
  refine⟨?_,World.ownsRow_nil _ _ _ _,Sets.nil _ _ _ _,by simp,?_,by simp,((Below.refl _ _).alloc (Nat.le_refl _) _).alloc (by simp) _,by simp⟩
  ·rw[←hz];exact heap_alloc_new _ _
  ·exact(ij.made w).block (Below.heap_alloc _ _ _ (by simp))
 go_enter Tryz.func29,Tryz.ntmps29
 go_wp2
 go_loopw [35] (fun i wr=> ∃(j:Nat) (v:Value) (H:List Hd),j≤np∧H.length=j∧i= .int .i64 j∧rR w wr n (jV np n q) v H) (fun i _=>np-(intOf i).toNat)
 case atStart=>exact⟨0,_,_,by omega,rfl,rfl,HB0.out⟩
 case round=>
  obtain⟨j,v,H,hj,hH,rfl,hB⟩:=hrel
  obtain⟨a,c,rfl⟩:=Dc.aF hB.row
  by_cases hjl:j<np
  ·have hjl':(j:Int)<(np:Int):=by omega
   have c0:=hB.cell (Below.refl _ _)
   have HNEW:Hid (∀W,Calls Tryz.prog 48 #[.int .i64 n,.int .i64 (if n<q then(n:Int) else(q:Int))] W fun e w'=> ∃sb qb gq hb gh,e= .returned (.pointer (some ⟨sb,0,none⟩))∧(∀k,gx sb qb gq hb gh k→W.heap.size≤k)∧cT w' sb qb gq hb gh n (min q n) 0 []∧Below W.heap.size W w'):=fun W=>by
    have e:(if n<q then(n:Int) else(q:Int))=((min q n:Nat):Int):=by split<;>omega
    rw[e]
    exact tM n (min q n) W h3 h4 (by omega) (by omega)
   have HAF:=aa (hB.after (min q n) (by unfold jV;rw[if_pos (by omega)]))
   have HHj:=aa hH
   have hl64:H.length≤64:=by omega
   clear hB hH
   go_wp2
   refine wp_region_held_drew (S:=(fun _=>True)) (by kernel_rfl) ?_ (fun hHeld=> ?_)
   ·trivial
   refine aE 0 (v:= ?_) rfl ?v0 ?_
   case v0=>(intro w hSw;(try dsimp only at hSw);go_simp;try with_reducible rfl)
   try simp only[ao]
   refine aE 1 (v:= ?_) rfl ?v1 ?_
   case v1=>(intro w hSw;(try dsimp only at hSw);go_simp;try with_reducible rfl)
   try simp only[ao]
   refine aE 2 (v:= ?_) rfl ?v2 ?_
   case v2=>(intro w hSw;(try dsimp only at hSw);go_simp;try with_reducible rfl)
   try simp only[ao]
   refine aE 3 (v:= ?_) rfl ?v3 ?_
   case v3=>(intro w hSw;(try dsimp only at hSw);go_simp;try with_reducible rfl)
   try simp only[ao]
   refine aE 5 (v:= ?_) rfl ?v5 ?_
   case v5=>(intro w hSw;(try dsimp only at hSw);go_simp;try with_reducible rfl)
   try simp only[ao]
   refine aE 6 (v:= ?_) rfl ?v6 ?_
   case v6=>(intro w hSw;(try dsimp only at hSw);go_simp;try with_reducible rfl)
   try simp only[ao]
   refine aE 7 (v:= ?_) rfl ?v7 ?_
   case v7=>(intro w hSw;(try dsimp only at hSw);go_simp;try with_reducible rfl)
   try simp only[ao]
   refine aE 8 (v:= ?_) rfl ?v8 ?_
   case v8=>(intro w hSw;(try dsimp only at hSw);go_simp;try with_reducible rfl)
   try simp only[ao]
   refine wpAnyH_ready (rs:=[4,9]) (by kernel_rfl) (by simp) ?_
   refine AllReadyH.cons rfl (fun K hK=> ?_) (AllReadyH.cons rfl (fun K hK=> ?_) AllReadyH.nil)
   ·skip
    go_simp
    refine hK.out _ _ ?_ (fun hHeld=> ?_)
    ·trivial
    clear hK K
    try simp only[ao]
    refine aZ 9 rfl (fun K hK=> ?_)
    go_simp
    go_at_call 48
    refine(HNEW.out _).mono ?_
    rintro e w1 ⟨sb,qb,gq,hb,gh,rfl,ho,hq,hb1⟩
    obtain⟨k1,k2,HROW,HSZ,HST⟩:=HAF.out w1 ⟨sb,qb,gq,hb,gh,0,[]⟩ hq ⟨rfl,rfl⟩ ho (by exact bQ hb1 rfl rfl rfl rfl)
    clear ho hq hb1
    refine hK.out _ _ ?_ (fun hHeld=> ?_)
    ·trivial
    clear hK K
    try simp only[ao]
    refine aZ 10 rfl (fun K hK=> ?_)
    go_simp
    refine hK.out _ _ ?_ (fun hHeld=> ?_)
    ·trivial
    clear hK K
    try simp only[ao]
    refine aZ 11 rfl (fun K hK=> ?_)
    refine cA _ (by rfl) _ _ _ (by rfl) (w.heap.size+2) 141 i0 (.pointer none) 1 8 Tryz.underlying138 hi0 hz0 hz1 hz2 rfl (by omega) (.slice a H.length c) H.length (gu H) (by rfl) (by exact HROW.out _ rfl) ⟨w1.heap.size,0,none⟩ 1 1 [.pointer (some ⟨sb,0,none⟩)] (by rfl) rfl (by exact cell_one_new _ _ _) (by intro u hu;simp at hu;rw[hu];rfl) (by unfold maxLen;omega) (by omega) (by exact HSZ.out _ rfl) ?_
    intro v' w3 hr3 hg3 hat3
    obtain⟨z1,z2,z3⟩:=HST.out _ w3 v' rfl hr3 hg3 hat3
    have HX:=aa z3
    obtain⟨a',c',rfl⟩:=Dc.aF hr3
    clear z3 hr3 hg3 hat3
    refine hK.out _ _ ?_ (fun hHeld=> ?_)
    ·trivial
    clear hK K
    try simp only[ao]
    refine aE 12 (v:= ?_) rfl ?v12 ?_
    case v12=>(intro w hSw;(try dsimp only at hSw);go_simp;try with_reducible rfl)
    try simp only[ao]
    refine aE 13 (v:= ?_) rfl ?v13 ?_
    case v13=>(intro w hSw;(try dsimp only at hSw);go_simp;try with_reducible rfl)
    try simp only[ao]
    refine aZ 14 rfl (fun K hK=> ?_)
    go_simp
    refine hK.out _ _ ?_ (fun hHeld=> ?_)
    ·trivial
    clear hK K
    try simp only[ao]
    refine wpAnyH_done (by kernel_rfl) ?_ _
    go_wp2
    go_roundw
    case rel=>exact⟨j+1,_,_,by omega,by have:=HHj.out;simp;omega,by go_num,HX.out⟩
    case measure=>simp[intOf];omega
   ·skip
    go_simp
    go_at_call 48
    refine(HNEW.out _).mono ?_
    rintro e w1 ⟨sb,qb,gq,hb,gh,rfl,ho,hq,hb1⟩
    obtain⟨k1,k2,HROW,HSZ,HST⟩:=HAF.out w1 ⟨sb,qb,gq,hb,gh,0,[]⟩ hq ⟨rfl,rfl⟩ ho (by exact bQ hb1 rfl rfl rfl rfl)
    clear ho hq hb1
    refine hK.out _ _ ?_ (fun hHeld=> ?_)
    ·trivial
    clear hK K
    try simp only[ao]
    refine wpAnyH_ready (rs:=[4,10]) (by kernel_rfl) (by simp) ?_
    refine AllReadyH.cons rfl (fun K hK=> ?_) (AllReadyH.cons rfl (fun K hK=> ?_) AllReadyH.nil)
    ·skip
     go_simp
     refine hK.out _ _ ?_ (fun hHeld=> ?_)
     ·trivial
     clear hK K
     try simp only[ao]
     refine aZ 10 rfl (fun K hK=> ?_)
     go_simp
     refine hK.out _ _ ?_ (fun hHeld=> ?_)
     ·trivial
     clear hK K
     try simp only[ao]
     refine aZ 11 rfl (fun K hK=> ?_)
     refine cA _ (by rfl) _ _ _ (by rfl) (w.heap.size+2) 141 i0 (.pointer none) 1 8 Tryz.underlying138 hi0 hz0 hz1 hz2 rfl (by omega) (.slice a H.length c) H.length (gu H) (by rfl) (by exact HROW.out _ rfl) ⟨w1.heap.size,0,none⟩ 1 1 [.pointer (some ⟨sb,0,none⟩)] (by rfl) rfl (by exact cell_one_new _ _ _) (by intro u hu;simp at hu;rw[hu];rfl) (by unfold maxLen;omega) (by omega) (by exact HSZ.out _ rfl) ?_
     intro v' w3 hr3 hg3 hat3
     obtain⟨z1,z2,z3⟩:=HST.out _ w3 v' rfl hr3 hg3 hat3
     have HX:=aa z3
     obtain⟨a',c',rfl⟩:=Dc.aF hr3
     clear z3 hr3 hg3 hat3
     refine hK.out _ _ ?_ (fun hHeld=> ?_)
     ·trivial
     clear hK K
     try simp only[ao]
     refine aE 12 (v:= ?_) rfl ?v12 ?_
     case v12=>(intro w hSw;(try dsimp only at hSw);go_simp;try with_reducible rfl)
     try simp only[ao]
     refine aE 13 (v:= ?_) rfl ?v13 ?_
     case v13=>(intro w hSw;(try dsimp only at hSw);go_simp;try with_reducible rfl)
     try simp only[ao]
     refine aZ 14 rfl (fun K hK=> ?_)
     go_simp
     refine hK.out _ _ ?_ (fun hHeld=> ?_)
     ·trivial
     clear hK K
     try simp only[ao]
     refine wpAnyH_done (by kernel_rfl) ?_ _
     go_wp2
     go_roundw
     case rel=>exact⟨j+1,_,_,by omega,by have:=HHj.out;simp;omega,by go_num,HX.out⟩
     case measure=>simp[intOf];omega
    ·skip
     go_simp
     refine hK.out _ _ ?_ (fun hHeld=> ?_)
     ·trivial
     clear hK K
     try simp only[ao]
     refine aZ 4 rfl (fun K hK=> ?_)
     go_simp
     refine hK.out _ _ ?_ (fun hHeld=> ?_)
     ·trivial
     clear hK K
     try simp only[ao]
     refine aZ 11 rfl (fun K hK=> ?_)
     refine cA _ (by rfl) _ _ _ (by rfl) (w.heap.size+2) 141 i0 (.pointer none) 1 8 Tryz.underlying138 hi0 hz0 hz1 hz2 rfl (by omega) (.slice a H.length c) H.length (gu H) (by rfl) (by exact HROW.out _ rfl) ⟨w1.heap.size,0,none⟩ 1 1 [.pointer (some ⟨sb,0,none⟩)] (by rfl) rfl (by exact cell_one_new _ _ _) (by intro u hu;simp at hu;rw[hu];rfl) (by unfold maxLen;omega) (by omega) (by exact HSZ.out _ rfl) ?_
     intro v' w3 hr3 hg3 hat3
     obtain⟨z1,z2,z3⟩:=HST.out _ w3 v' rfl hr3 hg3 hat3
     have HX:=aa z3
     obtain⟨a',c',rfl⟩:=Dc.aF hr3
     clear z3 hr3 hg3 hat3
     refine hK.out _ _ ?_ (fun hHeld=> ?_)
     ·trivial
     clear hK K
     try simp only[ao]
     refine aE 12 (v:= ?_) rfl ?v12 ?_
     case v12=>(intro w hSw;(try dsimp only at hSw);go_simp;try with_reducible rfl)
     try simp only[ao]
     refine aE 13 (v:= ?_) rfl ?v13 ?_
     case v13=>(intro w hSw;(try dsimp only at hSw);go_simp;try with_reducible rfl)
     try simp only[ao]
     refine aZ 14 rfl (fun K hK=> ?_)
     go_simp
     refine hK.out _ _ ?_ (fun hHeld=> ?_)
     ·trivial
     clear hK K
     try simp only[ao]
     refine wpAnyH_done (by kernel_rfl) ?_ _
     go_wp2
     go_roundw
     case rel=>exact⟨j+1,_,_,by omega,by have:=HHj.out;simp;omega,by go_num,HX.out⟩
     case measure=>simp[intOf];omega
  ·have hjl': ¬(j:Int)<(np:Int):=by omega
   have c0:=hB.cell (Below.refl _ _)
   have HNEW:=aa (fun W=>tM n n W h3 h4 (by omega) (by omega))
   have HAF:=aa (hB.after n (by unfold jV;rw[if_neg (by omega)]))
   have HHj:=aa hH
   have hl64:H.length≤64:=by omega
   clear hB hH
   go_wp2
   refine wp_region_held_drew (S:=(fun _=>True)) (by kernel_rfl) ?_ (fun hHeld=> ?_)
   ·trivial
   refine aE 0 (v:= ?_) rfl ?v0 ?_
   case v0=>(intro w hSw;(try dsimp only at hSw);go_simp;try with_reducible rfl)
   try simp only[ao]
   refine aE 1 (v:= ?_) rfl ?v1 ?_
   case v1=>(intro w hSw;(try dsimp only at hSw);go_simp;try with_reducible rfl)
   try simp only[ao]
   refine aE 2 (v:= ?_) rfl ?v2 ?_
   case v2=>(intro w hSw;(try dsimp only at hSw);go_simp;try with_reducible rfl)
   try simp only[ao]
   refine aE 3 (v:= ?_) rfl ?v3 ?_
   case v3=>(intro w hSw;(try dsimp only at hSw);go_simp;try with_reducible rfl)
   try simp only[ao]
   refine aE 5 (v:= ?_) rfl ?v5 ?_
   case v5=>(intro w hSw;(try dsimp only at hSw);go_simp;try with_reducible rfl)
   try simp only[ao]
   refine aE 6 (v:= ?_) rfl ?v6 ?_
   case v6=>(intro w hSw;(try dsimp only at hSw);go_simp;try with_reducible rfl)
   try simp only[ao]
   refine wpAnyH_ready (rs:=[4,7]) (by kernel_rfl) (by simp) ?_
   refine AllReadyH.cons rfl (fun K hK=> ?_) (AllReadyH.cons rfl (fun K hK=> ?_) AllReadyH.nil)
   ·skip
    go_simp
    refine hK.out _ _ ?_ (fun hHeld=> ?_)
    ·trivial
    clear hK K
    try simp only[ao]
    refine aZ 7 rfl (fun K hK=> ?_)
    go_simp
    go_at_call 48
    refine(HNEW.out _).mono ?_
    rintro e w1 ⟨sb,qb,gq,hb,gh,rfl,ho,hq,hb1⟩
    obtain⟨k1,k2,HROW,HSZ,HST⟩:=HAF.out w1 ⟨sb,qb,gq,hb,gh,0,[]⟩ hq ⟨rfl,rfl⟩ ho (by exact bQ hb1 rfl rfl rfl rfl)
    clear ho hq hb1
    refine hK.out _ _ ?_ (fun hHeld=> ?_)
    ·trivial
    clear hK K
    try simp only[ao]
    refine aZ 8 rfl (fun K hK=> ?_)
    go_simp
    refine hK.out _ _ ?_ (fun hHeld=> ?_)
    ·trivial
    clear hK K
    try simp only[ao]
    refine aZ 9 rfl (fun K hK=> ?_)
    refine cA _ (by rfl) _ _ _ (by rfl) (w.heap.size+2) 141 i0 (.pointer none) 1 8 Tryz.underlying138 hi0 hz0 hz1 hz2 rfl (by omega) (.slice a H.length c) H.length (gu H) (by rfl) (by exact HROW.out _ rfl) ⟨w1.heap.size,0,none⟩ 1 1 [.pointer (some ⟨sb,0,none⟩)] (by rfl) rfl (by exact cell_one_new _ _ _) (by intro u hu;simp at hu;rw[hu];rfl) (by unfold maxLen;omega) (by omega) (by exact HSZ.out _ rfl) ?_
    intro v' w3 hr3 hg3 hat3
    obtain⟨z1,z2,z3⟩:=HST.out _ w3 v' rfl hr3 hg3 hat3
    have HX:=aa z3
    obtain⟨a',c',rfl⟩:=Dc.aF hr3
    clear z3 hr3 hg3 hat3
    refine hK.out _ _ ?_ (fun hHeld=> ?_)
    ·trivial
    clear hK K
    try simp only[ao]
    refine aE 10 (v:= ?_) rfl ?v10 ?_
    case v10=>(intro w hSw;(try dsimp only at hSw);go_simp;try with_reducible rfl)
    try simp only[ao]
    refine aE 11 (v:= ?_) rfl ?v11 ?_
    case v11=>(intro w hSw;(try dsimp only at hSw);go_simp;try with_reducible rfl)
    try simp only[ao]
    refine aZ 12 rfl (fun K hK=> ?_)
    go_simp
    refine hK.out _ _ ?_ (fun hHeld=> ?_)
    ·trivial
    clear hK K
    try simp only[ao]
    refine wpAnyH_done (by kernel_rfl) ?_ _
    go_wp2
    go_ret
    first|exact⟨_,_,rfl,(by have:=HHj.out;simp;omega),HX.out⟩|exact⟨_,rfl,_,_,rfl,(by have:=HHj.out;simp;omega),HX.out⟩|exact⟨rfl,_,_,(by have:=HHj.out;simp;omega),HX.out⟩|exact⟨_,_,(by have:=HHj.out;simp;omega),HX.out⟩|exact⟨_,rfl,_,(by have:=HHj.out;simp;omega),HX.out⟩
   ·skip
    go_simp
    go_at_call 48
    refine(HNEW.out _).mono ?_
    rintro e w1 ⟨sb,qb,gq,hb,gh,rfl,ho,hq,hb1⟩
    obtain⟨k1,k2,HROW,HSZ,HST⟩:=HAF.out w1 ⟨sb,qb,gq,hb,gh,0,[]⟩ hq ⟨rfl,rfl⟩ ho (by exact bQ hb1 rfl rfl rfl rfl)
    clear ho hq hb1
    refine hK.out _ _ ?_ (fun hHeld=> ?_)
    ·trivial
    clear hK K
    try simp only[ao]
    refine wpAnyH_ready (rs:=[4,8]) (by kernel_rfl) (by simp) ?_
    refine AllReadyH.cons rfl (fun K hK=> ?_) (AllReadyH.cons rfl (fun K hK=> ?_) AllReadyH.nil)
    ·skip
     go_simp
     refine hK.out _ _ ?_ (fun hHeld=> ?_)
     ·trivial
     clear hK K
     try simp only[ao]
     refine aZ 8 rfl (fun K hK=> ?_)
     go_simp
     refine hK.out _ _ ?_ (fun hHeld=> ?_)
     ·trivial
     clear hK K
     try simp only[ao]
     refine aZ 9 rfl (fun K hK=> ?_)
     refine cA _ (by rfl) _ _ _ (by rfl) (w.heap.size+2) 141 i0 (.pointer none) 1 8 Tryz.underlying138 hi0 hz0 hz1 hz2 rfl (by omega) (.slice a H.length c) H.length (gu H) (by rfl) (by exact HROW.out _ rfl) ⟨w1.heap.size,0,none⟩ 1 1 [.pointer (some ⟨sb,0,none⟩)] (by rfl) rfl (by exact cell_one_new _ _ _) (by intro u hu;simp at hu;rw[hu];rfl) (by unfold maxLen;omega) (by omega) (by exact HSZ.out _ rfl) ?_
     intro v' w3 hr3 hg3 hat3
     obtain⟨z1,z2,z3⟩:=HST.out _ w3 v' rfl hr3 hg3 hat3
     have HX:=aa z3
     obtain⟨a',c',rfl⟩:=Dc.aF hr3
     clear z3 hr3 hg3 hat3
     refine hK.out _ _ ?_ (fun hHeld=> ?_)
     ·trivial
     clear hK K
     try simp only[ao]
     refine aE 10 (v:= ?_) rfl ?v10 ?_
     case v10=>(intro w hSw;(try dsimp only at hSw);go_simp;try with_reducible rfl)
     try simp only[ao]
     refine aE 11 (v:= ?_) rfl ?v11 ?_
     case v11=>(intro w hSw;(try dsimp only at hSw);go_simp;try with_reducible rfl)
     try simp only[ao]
     refine aZ 12 rfl (fun K hK=> ?_)
     go_simp
     refine hK.out _ _ ?_ (fun hHeld=> ?_)
     ·trivial
     clear hK K
     try simp only[ao]
     refine wpAnyH_done (by kernel_rfl) ?_ _
     go_wp2
     go_ret
     first|exact⟨_,_,rfl,(by have:=HHj.out;simp;omega),HX.out⟩|exact⟨_,rfl,_,_,rfl,(by have:=HHj.out;simp;omega),HX.out⟩|exact⟨rfl,_,_,(by have:=HHj.out;simp;omega),HX.out⟩|exact⟨_,_,(by have:=HHj.out;simp;omega),HX.out⟩|exact⟨_,rfl,_,(by have:=HHj.out;simp;omega),HX.out⟩
    ·skip
     go_simp
     refine hK.out _ _ ?_ (fun hHeld=> ?_)
     ·trivial
     clear hK K
     try simp only[ao]
     refine aZ 4 rfl (fun K hK=> ?_)
     go_simp
     refine hK.out _ _ ?_ (fun hHeld=> ?_)
     ·trivial
     clear hK K
     try simp only[ao]
     refine aZ 9 rfl (fun K hK=> ?_)
     refine cA _ (by rfl) _ _ _ (by rfl) (w.heap.size+2) 141 i0 (.pointer none) 1 8 Tryz.underlying138 hi0 hz0 hz1 hz2 rfl (by omega) (.slice a H.length c) H.length (gu H) (by rfl) (by exact HROW.out _ rfl) ⟨w1.heap.size,0,none⟩ 1 1 [.pointer (some ⟨sb,0,none⟩)] (by rfl) rfl (by exact cell_one_new _ _ _) (by intro u hu;simp at hu;rw[hu];rfl) (by unfold maxLen;omega) (by omega) (by exact HSZ.out _ rfl) ?_
     intro v' w3 hr3 hg3 hat3
     obtain⟨z1,z2,z3⟩:=HST.out _ w3 v' rfl hr3 hg3 hat3
     have HX:=aa z3
     obtain⟨a',c',rfl⟩:=Dc.aF hr3
     clear z3 hr3 hg3 hat3
     refine hK.out _ _ ?_ (fun hHeld=> ?_)
     ·trivial
     clear hK K
     try simp only[ao]
     refine aE 10 (v:= ?_) rfl ?v10 ?_
     case v10=>(intro w hSw;(try dsimp only at hSw);go_simp;try with_reducible rfl)
     try simp only[ao]
     refine aE 11 (v:= ?_) rfl ?v11 ?_
     case v11=>(intro w hSw;(try dsimp only at hSw);go_simp;try with_reducible rfl)
     try simp only[ao]
     refine aZ 12 rfl (fun K hK=> ?_)
     go_simp
     refine hK.out _ _ ?_ (fun hHeld=> ?_)
     ·trivial
     clear hK K
     try simp only[ao]
     refine wpAnyH_done (by kernel_rfl) ?_ _
     go_wp2
     go_ret
     first|exact⟨_,_,rfl,(by have:=HHj.out;simp;omega),HX.out⟩|exact⟨_,rfl,_,_,rfl,(by have:=HHj.out;simp;omega),HX.out⟩|exact⟨rfl,_,_,(by have:=HHj.out;simp;omega),HX.out⟩|exact⟨_,_,(by have:=HHj.out;simp;omega),HX.out⟩|exact⟨_,rfl,_,(by have:=HHj.out;simp;omega),HX.out⟩
def aN (n:Nat):List Hd→Int→Int→Option Int
 |[],_,_=>none
 |h::H,i,id=>if ((if 0≤id∧id<(n:Int) then keyOf h.M id.toNat else none:Option Ke.K)).isSome then some i else aN n H (i+1) id
def cS (H:List Hd):Nat:=(H.map (fun h=>h.M.length)).sum
structure fR (w:World) (base lo pb mb n np q:Nat) (v:Value) (H:List Hd):Prop where
 n1:1≤n∧n≤1024
 np1:1≤np∧np≤64
 q1:1≤q∧q≤256
 blk:w.heap[pb]? =some (.cells #[v,.map (some mb),.int .i64 (n:Int)] 140 (0,0))
 row:w.ownsRow base 141 1 v H.length (gu H)
 len:H.length=np+1
 sets:Sets w lo n (jV np n q) H
 map:ij w mb (aN n H 0) (cS H)
 sep: ∀(i:Nat) (h:Hd),H[i]? =some h→ ∀k,h.own k→v.ownBlock≠some k∧k≠pb∧k≠mb
 ne:pb≠mb∧v.ownBlock≠some pb∧v.ownBlock≠some mb
section
variable {w:World} {base lo pb mb n np q:Nat} {v:Value} {H:List Hd}
theorem fR.c0 (h:fR w base lo pb mb n np q v H):w.cell? ⟨pb,0,none⟩=some v:=by unfold World.cell?;simp only[h.blk];rfl
theorem fR.c1 (h:fR w base lo pb mb n np q v H):w.cell? ⟨pb,1,none⟩=some (.map (some mb)):=by unfold World.cell?;simp only[h.blk];rfl
theorem fR.c2 (h:fR w base lo pb mb n np q v H):w.cell? ⟨pb,2,none⟩=some (.int .i64 (n:Int)):=by unfold World.cell?;simp only[h.blk];rfl
theorem uI (np:Nat) (h:np≤64):IntKind.i64.wrap (((np+1:Nat):Int)-1)=(np:Int):=by
 simp[IntKind.wrap,IntKind.bits,IntKind.signed]
 omega
theorem sG (h:fR w base lo pb mb n np q v H):
  Calls Tryz.prog 154 #[.pointer (some ⟨pb,0,none⟩)] w fun e w'=>e= .returned (.int .i64 (np:Int))∧w'=w:=by
 obtain⟨a,c,rfl⟩:=Dc.aF h.row
 have c0:=h.c0
 rw[h.len] at c0
 have hnp:=h.np1
 have hw:=uI np hnp.2
 clear h
 go_enter Tryz.func154,Tryz.ntmps154
 go_wp2
 go_ret
 exact⟨by first|rfl|(simp;omega),rfl⟩
theorem BK (h:fR w base lo pb mb n np q v H):
  Calls Tryz.prog 134 #[.pointer (some ⟨pb,0,none⟩)] w fun e w'=>e= .returned (.int .i64 (cS H:Int))∧w'=w:=by
 have c1:=h.c1
 have hl:=h.map.len
 clear h
 go_enter Tryz.func134,Tryz.ntmps134
 go_wp2
 go_ret
 exact⟨rfl,rfl⟩
theorem pd (h:fR w base lo pb mb n np q v H) (p:Int):
  Calls Tryz.prog 133 #[.pointer (some ⟨pb,0,none⟩),.int .i64 p] w fun e w'=>e= .returned (.bool (decide (0≤p∧p<(np:Int))))∧w'=w:=by
 have HS:=aa (sG h)
 clear h
 by_cases h0:0≤p
 ·by_cases h1:p<(np:Int)
  ·have e:decide (0≤p∧p<(np:Int))=true:=decide_eq_true ⟨h0,h1⟩
   rw[e]
   go_enter Tryz.func133,Tryz.ntmps133
   go_wp2_with (go_at_call 154;refine(HS.out).mono ?_;rintro e w1 ⟨rfl,hw⟩;replace hw:=hw.symm;subst hw)
   go_ret
   exact⟨by first|rfl|simp[*],rfl⟩
  ·have e:decide (0≤p∧p<(np:Int))=false:=decide_eq_false (fun q=>h1 q.2)
   rw[e]
   go_enter Tryz.func133,Tryz.ntmps133
   go_wp2_with (go_at_call 154;refine(HS.out).mono ?_;rintro e w1 ⟨rfl,hw⟩;replace hw:=hw.symm;subst hw)
   go_ret
   exact⟨by first|rfl|simp[*],rfl⟩
 ·have e:decide (0≤p∧p<(np:Int))=false:=decide_eq_false (fun q=>h0 q.1)
  rw[e]
  have h0':p<0:=by omega
  go_enter Tryz.func133,Tryz.ntmps133
  go_wp2
  go_ret
  exact⟨by first|rfl|simp[*],rfl⟩
end
section
variable {w:World} {base lo pb mb n np q:Nat} {v:Value} {H:List Hd}
theorem fR.rows (h:fR w base lo pb mb n np q v H): ∃g cap,v= .slice (some ⟨g,0,none⟩) (np+1) cap∧base≤g∧g<w.heap.size∧ ∀(i:Nat) (x:Hd),H[i]? =some x→w.cell? ⟨g,i,none⟩=some (.pointer (some ⟨x.sb,0,none⟩)):=by
 have hl:=h.len
 obtain⟨g,cap,e,h1,h2⟩:=World.ownsRow.form h.row (by omega)
 have e':=e
 rw[hl] at e'
 refine⟨g,cap,e',h1,h2,fun i x hx=> ?_⟩
 have hi:i<H.length:=(List.getElem?_eq_some_iff.1 hx).1
 have hr:=h.row
 rw[e] at hr
 rw[World.ownsRow.cellAt hr i (by omega)]
 unfold gu
 rw[List.getElem?_map,hx]
 rfl
theorem uK (h:fR w base lo pb mb n np q v H) (id:Int) (hi:(Lit.int .i64 id).wf=true) (i:Nat) (x:Hd) (hx:H[i]? =some x) (hw:aN n H 0 id=some (i:Int)):
  Calls Tryz.prog 117 #[.pointer (some ⟨pb,0,none⟩),.int .i64 id] w fun e w'=>e= .returned (.pointer (some ⟨x.sb,0,none⟩))∧w'=w:=by
 have c1:=h.c1
 have hl:=h.map.look id hi
 rw[hw] at hl
 simp only[Option.getD_some,Option.isSome_some] at hl
 obtain⟨g,cap,e,_,_,hc⟩:=h.rows
 have c0:=h.c0
 rw[e] at c0
 have hc':=hc i x hx
 have hil:i<np+1:=by have:=(List.getElem?_eq_some_iff.1 hx).1;have:=h.len;omega
 have hnp:=h.np1
 clear h hc hw hx
 go_enter Tryz.func117,Tryz.ntmps117
 go_wp2
 go_ret
 exact⟨rfl,rfl⟩
theorem ki (W:World) (pb np:Nat) (a:Option Addr) (c:Nat) (hnp:np≤64) (c0:W.cell? ⟨pb,0,none⟩=some (.slice a (np+1) c)):
  Calls Tryz.prog 154 #[.pointer (some ⟨pb,0,none⟩)] W fun e w'=>e= .returned (.int .i64 (np:Int))∧w'=W:=by
 have hw:=uI np hnp
 go_enter Tryz.func154,Tryz.ntmps154
 go_wp2
 go_ret
 exact⟨by first|rfl|(simp;omega),rfl⟩
theorem Cj (h:fR w base lo pb mb n np q v H) (id:Int) (hi:(Lit.int .i64 id).wf=true) (x:Hd) (hx:H[np]? =some x) (hw:aN n H 0 id=none):
  Calls Tryz.prog 117 #[.pointer (some ⟨pb,0,none⟩),.int .i64 id] w fun e w'=>e= .returned (.pointer (some ⟨x.sb,0,none⟩))∧Below w.heap.size w w':=by
 have c1:=h.c1
 have hl:=h.map.look id hi
 rw[hw] at hl
 simp only[Option.getD_none,Option.isSome_none] at hl
 obtain⟨g,cap,e,_,_,hc⟩:=h.rows
 have c0:=h.c0
 rw[e] at c0
 have hc':=hc np x hx
 have hnp:=h.np1
 have HS:=aa (fun W h0=>ki W pb np (some ⟨g,0,none⟩) cap hnp.2 h0)
 have C0:=aa c0
 have b0:(0:Int)≤(np:Int):=by omega
 have b1:(np:Int)<(np:Int)+1:=by omega
 have b2:(np:Int)<((np+1:Nat):Int):=by omega
 have b3:np<np+1:=by omega
 have b4: ¬(np:Int)<0:=by omega
 clear h hc hw hx
 go_enter Tryz.func117,Tryz.ntmps117
 go_wp2
 go_region_held3 (fun w'=>w'.cell? ⟨pb,0,none⟩=some (.slice (some ⟨g,0,none⟩) (np+1) cap)∧w'.cell? ⟨g,np,none⟩=some (.pointer (some ⟨x.sb,0,none⟩)))
  (first
   |go_keep)
  (first
   |(go_at_call 154;refine(HS.out _ (by exact C0.out)).mono ?_;rintro e w1 ⟨rfl,hw⟩;replace hw:=hw.symm;subst hw))
 go_wp2
 go_ret
 exact⟨rfl,by first|exact Below.refl _ _|exact below_drewN (Below.refl _ _) _|exact below_drewN (Below.refl _ _) 1⟩
end
end Go.Proofs.YtdbailcdlngemaaGreatDoor
namespace Go.Proofs.YtdbailcdlngemaaGreatDoor
open Go.RowKit Go.Lib
def Un (H:List Hd):Prop:= ∀(i j:Nat) (x y:Hd) (id:Nat),H[i]? =some x→H[j]? =some y→(keyOf x.M id).isSome→(keyOf y.M id).isSome→i=j
def iR (n:Nat) (h:Hd) (id:Int):Bool:=((if 0≤id∧id<(n:Int) then keyOf h.M id.toNat else none:Option Ke.K)).isSome
theorem ei (n:Nat) (h:Hd) (H:List Hd) (k id:Int):aN n (h::H) k id=if iR n h id=true then some k else aN n H (k+1) id:=rfl
theorem eL {n:Nat} {h:Hd} {id:Int}:iR n h id=true↔0≤id∧id<(n:Int)∧(keyOf h.M id.toNat).isSome=true:=by
 unfold iR
 by_cases q:0≤id∧id<(n:Int)
 ·rw[if_pos q]
  exact⟨fun r=>⟨q.1,q.2,r⟩,fun r=>r.2.2⟩
 ·rw[if_neg q]
  exact⟨fun r=>(by cases r),fun r=>absurd ⟨r.1,r.2.1⟩ q⟩
theorem fo (n:Nat) (id:Int): ∀(H:List Hd) (k:Int),(∀(i:Nat) (x:Hd),H[i]? =some x→0≤id→keyOf x.M id.toNat=none)→aN n H k id=none
 |[],_,_=>rfl
 |h::H,k,hn=>by
  rw[ei,if_neg (fun q=>by
   have q:=eL.1 q
   rw[hn 0 h rfl q.1] at q
   exact absurd q.2.2 (by decide))]
  exact fo n id H (k+1) (fun i x hx=>hn (i+1) x (by simpa using hx))
theorem jh (n:Nat) (id:Int): ∀(H:List Hd) (k c:Int),aN n H k id=some c→ ∃(i:Nat) (x:Hd),H[i]? =some x∧c=k+(i:Int)∧0≤id∧id<(n:Int)∧(keyOf x.M id.toNat).isSome
 |[],_,_,h=>by cases h
 |h::H,k,c,hc=>by
  rw[ei] at hc
  by_cases q:iR n h id=true
  ·rw[if_pos q] at hc
   injection hc with hc
   exact⟨0,h,rfl,by simp[hc],eL.1 q⟩
  ·rw[if_neg q] at hc
   obtain⟨i,x,h1,h2,h3⟩:=jh n id H (k+1) c hc
   exact⟨i+1,x,by simpa using h1,by rw[h2];push_cast;omega,h3⟩
theorem gK {n:Nat} {id:Int} {x:Hd}: ∀{H:List Hd} {k:Int} {i:Nat},H[i]? =some x→aN n H k id=none→iR n x id=false
 |[],_,_,h,_=>by simp at h
 |h::H,k,i,hi,hn=>by
  rw[ei] at hn
  by_cases q:iR n h id=true
  ·rw[if_pos q] at hn
   cases hn
  ·rw[if_neg q] at hn
   cases i with
   |zero=>
    simp at hi
    subst hi
    simpa using q
   |succ i=>exact gK (i:=i) (by simpa using hi) hn
theorem lh (n:Nat) (H:List Hd) (hu:Un H) (i:Nat) (x:Hd) (hx:H[i]? =some x) (id:Nat) (hi:id<n) (hk:(keyOf x.M id).isSome):aN n H 0 (id:Int)=some (i:Int):=by
 cases hf:aN n H 0 (id:Int) with
 |some c=>
  obtain⟨j,y,h1,h2,_,_,h5⟩:=jh n _ H 0 c hf
  have:=hu i j x y id hx h1 hk h5
  rw[h2,this];simp
 |none=>
  have h1:=gK hx hf
  have h2:iR n x (id:Int)=true:=eL.2 ⟨by omega,by omega,hk⟩
  rw[h1] at h2
  cases h2
theorem dt {n:Nat} {H:List Hd} {id:Nat} (hw:aN n H 0 (id:Int)=none) (hi:id<n) {i:Nat} {x:Hd} (hx:H[i]? =some x):keyOf x.M id=none:=by
 have h1:=gK hx hw
 cases hk:keyOf x.M id with
 |none=>rfl
 |some k=>
  have h2:iR n x (id:Int)=true:=eL.2 ⟨by omega,by omega,by simp[hk]⟩
  rw[h1] at h2
  cases h2
theorem dB (n:Nat) (id:Int): ∀(H H':List Hd) (k:Int),H.length=H'.length→(∀(i:Nat) (x x':Hd),H[i]? =some x→H'[i]? =some x'→0≤id→(keyOf x.M id.toNat).isSome=(keyOf x'.M id.toNat).isSome)→aN n H k id=aN n H' k id
 |[],[],_,_,_=>rfl
 |[],_::_,_,h,_=>by simp at h
 |_::_,[],_,h,_=>by simp at h
 |h::H,h'::H',k,hl,hc=>by
  have e:iR n h id=iR n h' id:=by
   rw[Bool.eq_iff_iff,eL,eL]
   constructor
   ·rintro⟨q1,q2,q3⟩;exact⟨q1,q2,by rw[←hc 0 h h' rfl rfl q1];exact q3⟩
   ·rintro⟨q1,q2,q3⟩;exact⟨q1,q2,by rw[hc 0 h h' rfl rfl q1];exact q3⟩
  rw[ei,ei,e,dB n id H H' (k+1) (by simpa using hl) (fun i x x' hx hx'=>hc (i+1) x x' (by simpa using hx) (by simpa using hx'))]
theorem dm {H:List Hd} {i:Nat} {y:Hd} (hi:i<H.length) {j:Nat} {z:Hd} (hz:(H.set i y)[j]? =some z):(j=i∧z=y)∨(j≠i∧H[j]? =some z):=by
 rcases Nat.decEq j i with q|q
 ·rw[List.getElem?_set_ne (fun e=>q e.symm)] at hz
  exact .inr ⟨q,hz⟩
 ·subst q
  rw[List.getElem?_set_self hi] at hz
  exact .inl ⟨rfl,(Option.some.inj hz).symm⟩
theorem dX: ∀{H:List Hd} {i:Nat} {x y:Hd},H[i]? =some x→cS (H.set i y)+x.M.length=cS H+y.M.length
 |[],_,_,_,h=>by simp at h
 |h::H,0,x,y,hx=>by
  simp at hx
  subst hx
  simp[cS]
  omega
 |h::H,i+1,x,y,hx=>by
  have:=dX (H:=H) (i:=i) (x:=x) (y:=y) (by simpa using hx)
  simp only[cS,List.set_cons_succ,List.map_cons,List.sum_cons] at this⊢
  omega
theorem uR {b:Nat}: ∀{H:List Hd},(∀(i:Nat) (x:Hd),H[i]? =some x→x.M.length≤b)→cS H≤H.length*b
 |[],_=>by simp[cS]
 |h::H,hb=>by
  have h1:=hb 0 h rfl
  have:=uR (H:=H) (fun i x hx=>hb (i+1) x (by simpa using hx))
  simp only[cS,List.map_cons,List.sum_cons,List.length_cons,Nat.add_mul,Nat.one_mul] at this⊢
  omega
theorem gZ {M:List En} {id:Nat}:(keyOf M id).isSome=true↔ ∃y∈M,y.1=id:=by
 cases h:keyOf M id with
 |none=>
  have:=bX.1 h
  simp only[Option.isSome_none]
  constructor
  ·intro q;cases q
  ·rintro⟨y,hy,e⟩;exact absurd e (this y hy)
 |some k=>
  simp only[Option.isSome_some,true_iff]
  unfold keyOf at h
  cases hf:M.find? (fun y=>y.1==id) with
  |none=>rw[hf] at h;cases h
  |some y=>exact⟨y,List.mem_of_find?_eq_some hf,by simpa using List.find?_some hf⟩
theorem jv {M:List En} {id j:Nat} {k:Ke.K}:(keyOf (put (id,k) M) j).isSome=true↔j=id∨(keyOf M j).isSome=true:=by
 rw[gZ,gZ]
 constructor
 ·rintro⟨y,hy,rfl⟩
  rcases dC.1 hy with rfl|hy
  ·exact .inl rfl
  ·exact .inr ⟨y,hy,rfl⟩
 ·rintro(rfl|⟨y,hy,rfl⟩)
  ·exact⟨_,dC.2 (.inl rfl),rfl⟩
  ·exact⟨y,dC.2 (.inr hy),rfl⟩
theorem lF {M:List En} {id j:Nat}:(keyOf (cut id M) j).isSome=true↔j≠id∧(keyOf M j).isSome=true:=by
 rw[gZ,gZ]
 constructor
 ·rintro⟨y,hy,rfl⟩
  exact⟨(iB.1 hy).2,y,(iB.1 hy).1,rfl⟩
 ·rintro⟨h,y,hy,rfl⟩
  exact⟨y,iB.2 ⟨hy,h⟩,rfl⟩
theorem wB {n:Nat} {H:List Hd} (hu:Un H) {i:Nat} {x y:Hd} (hx:H[i]? =some x) {id:Nat} (hi:id<n) {k:Ke.K} (hy:y.M=put (id,k) x.M) (hw:aN n H 0 (id:Int)=none):
  Un (H.set i y)∧aN n (H.set i y) 0=gM (aN n H 0) (id:Int) (some (i:Int)):=by
 have hil:i<H.length:=(List.getElem?_eq_some_iff.1 hx).1
 have U:Un (H.set i y):=by
  intro a b s t j hs ht h1 h2
  rcases dm hil hs with ⟨rfl,rfl⟩|⟨q,q'⟩
  ·rcases dm hil ht with ⟨rfl,rfl⟩|⟨r,r'⟩
   ·rfl
   ·rw[hy,jv] at h1
    rcases h1 with rfl|h1
    ·rw[dt hw hi r'] at h2;cases h2
    ·exact hu _ _ x t j hx r' h1 h2
  ·rcases dm hil ht with ⟨rfl,rfl⟩|⟨r,r'⟩
   ·rw[hy,jv] at h2
    rcases h2 with rfl|h2
    ·rw[dt hw hi q'] at h1;cases h1
    ·exact hu _ _ s x j q' hx h1 h2
   ·exact hu a b s t j q' r' h1 h2
 refine⟨U,funext fun j=> ?_⟩
 unfold gM
 by_cases e:j=(id:Int)
 ·subst e
  rw[if_pos rfl]
  refine lh n _ U i y (List.getElem?_set_self hil) id hi ?_
  rw[hy,jv]
  exact .inl rfl
 ·rw[if_neg e]
  refine dB n j _ _ 0 (by simp) (fun a s t hs ht hj=> ?_)
  rcases dm hil hs with ⟨rfl,rfl⟩|⟨q,q'⟩
  ·rw[hx] at ht
   injection ht with ht
   subst ht
   rw[Bool.eq_iff_iff,hy,jv]
   constructor
   ·rintro(q|q)
    ·omega
    ·exact q
   ·exact .inr
  ·rw[q'] at ht
   injection ht with ht
   rw[ht]
theorem nW {n:Nat} {H:List Hd} (hu:Un H) {i:Nat} {x y:Hd} (hx:H[i]? =some x) {id:Nat} (hy:y.M=cut id x.M) (hw:(keyOf x.M id).isSome=true):
  Un (H.set i y)∧aN n (H.set i y) 0=gM (aN n H 0) (id:Int) none:=by
 have hil:i<H.length:=(List.getElem?_eq_some_iff.1 hx).1
 have sub: ∀(a:Nat) (s:Hd) (j:Nat),(H.set i y)[a]? =some s→(keyOf s.M j).isSome=true→ ∃t,H[a]? =some t∧(keyOf t.M j).isSome=true:=by
  intro a s j hs h1
  rcases dm hil hs with ⟨rfl,rfl⟩|⟨q,q'⟩
  ·rw[hy,lF] at h1
   exact⟨x,hx,h1.2⟩
  ·exact⟨s,q',h1⟩
 have U:Un (H.set i y):=by
  intro a b s t j hs ht h1 h2
  obtain⟨s',p1,p2⟩:=sub a s j hs h1
  obtain⟨t',p3,p4⟩:=sub b t j ht h2
  exact hu a b s' t' j p1 p3 p2 p4
 refine⟨U,funext fun j=> ?_⟩
 unfold gM
 by_cases e:j=(id:Int)
 ·subst e
  rw[if_pos rfl]
  refine fo n _ _ 0 (fun a s hs _=> ?_)
  simp only[Int.toNat_natCast]
  cases hk:keyOf s.M id with
  |none=>rfl
  |some k=>
   exfalso
   rcases dm hil hs with ⟨rfl,rfl⟩|⟨q,q'⟩
   ·have:=(lF (M:=x.M) (id:=id) (j:=id)).1 (by rw[←hy,hk];rfl)
    exact this.1 rfl
   ·exact q (hu a i s x id q' hx (by rw[hk];rfl) hw)
 ·rw[if_neg e]
  refine dB n j _ _ 0 (by simp) (fun a s t hs ht hj=> ?_)
  rcases dm hil hs with ⟨rfl,rfl⟩|⟨q,q'⟩
  ·rw[hx] at ht
   injection ht with ht
   subst ht
   rw[Bool.eq_iff_iff,hy,lF]
   constructor
   ·exact fun q=>q.2
   ·exact fun q=>⟨by omega,q⟩
  ·rw[q'] at ht
   injection ht with ht
   rw[ht]
theorem sQ {n:Nat} {H:List Hd} (hu:Un H) {i:Nat} {x y:Hd} (hx:H[i]? =some x) (hy: ∀id,(keyOf y.M id).isSome=(keyOf x.M id).isSome):
  Un (H.set i y)∧aN n (H.set i y) 0=aN n H 0:=by
 have hil:i<H.length:=(List.getElem?_eq_some_iff.1 hx).1
 have sub: ∀(a:Nat) (s:Hd) (j:Nat),(H.set i y)[a]? =some s→ ∃t,H[a]? =some t∧(keyOf t.M j).isSome=(keyOf s.M j).isSome:=by
  intro a s j hs
  rcases dm hil hs with ⟨rfl,rfl⟩|⟨q,q'⟩
  ·exact⟨x,hx,(hy j).symm⟩
  ·exact⟨s,q',rfl⟩
 refine⟨fun a b s t j hs ht h1 h2=> ?_,funext fun j=> ?_⟩
 ·obtain⟨s',p1,p2⟩:=sub a s j hs
  obtain⟨t',p3,p4⟩:=sub b t j ht
  exact hu a b s' t' j p1 p3 (p2.trans h1) (p4.trans h2)
 ·refine dB n j _ _ 0 (by simp) (fun a s t hs ht hj=> ?_)
  obtain⟨s',p1,p2⟩:=sub a s j.toNat hs
  rw[ht] at p1
  injection p1 with p1
  rw[p1,p2]
def Hd.to (x:Hd) (t:Nat) (M:List En):Hd:={x with turn:=t,M:=M}
theorem Hd.DE (x:Hd) (t:Nat) (M:List En) (k:Nat):(x.to t M).own k↔x.own k:=Iff.rfl
theorem BI {H:List Hd} {i:Nat} {x:Hd} (hx:H[i]? =some x) (t:Nat) (M:List En):gu (H.set i (x.to t M))=gu H:=by
 unfold gu
 rw[List.map_set]
 have:((H.map (fun h:Hd=>Value.pointer (some ⟨h.sb,0,none⟩)))).set i (Value.pointer (some ⟨x.sb,0,none⟩))=H.map (fun h:Hd=>Value.pointer (some ⟨h.sb,0,none⟩)):=by
  apply List.ext_getElem?
  intro j
  rw[List.getElem?_set]
  split
  ·rename_i e
   subst e
   rw[List.getElem?_map,hx]
   split
   ·rfl
   ·rename_i q
    simp at q
    have:=(List.getElem?_eq_some_iff.1 hx).1
    omega
  ·rfl
 exact this
theorem tO {S:Nat→Prop} {w w':World} {base:Nat} {e:TypeId} {size:Nat} {v:Value} {n:Nat} {xs:List Value} (h:w.ownsRow base e size v n xs) (hf:Fr S w w') (hn: ∀k,v.ownBlock=some k→ ¬S k):w'.ownsRow base e size v n xs:=by
 refine⟨h.1,?_⟩
 rcases h.2 with r|⟨g,cap,cur,rfl,hb,hg,r⟩
 ·exact .inl r
 ·refine .inr ⟨g,cap,cur,rfl,hb,?_,r⟩
  rw[hf.block g (Array.getElem?_eq_some_iff.1 hg).1 (hn g rfl)]
  exact hg
structure cw (w:World) (base lo pb mb n np q:Nat) (v:Value) (T:Nat) (H:List Hd):Prop where
 p:fR w base lo pb mb n np q v H
 un:Un H
 tn: ∀(i:Nat) (h:Hd),H[i]? =some h→h.turn≤T
section
variable {w w' wa wb:World} {base lo pb mb n np q T:Nat} {v:Value} {H:List Hd}
theorem fR.Dx (h:fR w base lo pb mb n np q v H):pb<w.heap.size:=(Array.getElem?_eq_some_iff.1 h.blk).1
theorem fR.below (h:fR w base lo pb mb n np q v H) (hb:Below w.heap.size w w'):fR w' base lo pb mb n np q v H:=
 ⟨h.n1,h.np1,h.q1,(hb.block _ h.Dx).trans h.blk,Dc.tI h.row (Dc.Fr.aC (S:=fun _=>False) hb) (fun _ _ _ q=>q),h.len,h.sets.below hb,h.map.block (hb.block _ h.map.lt),h.sep,h.ne⟩
theorem cw.below (h:cw w base lo pb mb n np q v T H) (hb:Below w.heap.size w w'):cw w' base lo pb mb n np q v T H:=⟨h.p.below hb,h.un,h.tn⟩
def jD (pb mb:Nat) (v:Value) (H:List Hd) (k:Nat):Prop:=k=pb∨k=mb∨v.ownBlock=some k∨ ∃(i:Nat) (h:Hd),H[i]? =some h∧h.own k
theorem fR.blocks (h:fR w base lo pb mb n np q v H): ∀k,jD pb mb v H k→k<w.heap.size:=by
 rintro k (rfl|rfl|e|⟨i,x,hx,hk⟩)
 ·exact h.Dx
 ·exact h.map.lt
 ·exact(Dc.mD h.row k e).2
 ·exact(h.sets.it i x hx).blocks k hk
theorem fR.frame {S:Nat→Prop} (h:fR w base lo pb mb n np q v H) (hf:Fr S w w') (hn: ∀k,jD pb mb v H k→ ¬S k):fR w' base lo pb mb n np q v H:=
 ⟨h.n1,h.np1,h.q1,(hf.block _ h.Dx (hn _ (.inl rfl))).trans h.blk,tO h.row hf (fun k e=>hn k (.inr (.inr (.inl e)))),h.len,h.sets.frame hf (fun i x hx k hk=>hn k (.inr (.inr (.inr ⟨i,x,hx,hk⟩)))),h.map.block (hf.block _ h.map.lt (hn _ (.inr (.inl rfl)))),h.sep,h.ne⟩
theorem fR.gU (h:fR w base lo pb mb n np q v H) {i:Nat} {x:Hd} (hx:H[i]? =some x) {t:Nat} {M:List En} (hf:Fr x.own w wa) (hy:(x.to t M).is wa n (jV np n q i)) (hg:Fr (fun k=>k=mb) wa wb)
  (hm:ij wb mb (aN n (H.set i (x.to t M)) 0) (cS (H.set i (x.to t M)))):fR wb base lo pb mb n np q v (H.set i (x.to t M))∧Fr (fun k=>k=mb∨x.own k) w wb:=by
 have hF:Fr (fun k=>k=mb∨x.own k) w wb:=(hf.wide (fun _ _ q=> .inr q)).trans (hg.wide (fun _ _ q=> .inl q))
 have hil:i<H.length:=(List.getElem?_eq_some_iff.1 hx).1
 have ho:=fun k=>Hd.DE x t M k
 have hs:=h.sep i x hx
 refine⟨⟨h.n1,h.np1,h.q1,?_,?_,by rw[List.length_set];exact h.len,?_,hm,?_,h.ne⟩,hF⟩
 ·rw[hF.block _ h.Dx (by rintro(e|e);exact h.ne.1 e;exact(hs _ e).2.1 rfl)]
  exact h.blk
 ·rw[List.length_set,BI hx]
  refine tO h.row hF ?_
  rintro k e (rfl|e')
  ·exact h.ne.2.2 e
  ·exact(hs k e').1 e
 ·have:=h.sets.set hx hf hy ho
  refine this.frame hg ?_
  intro j z hz k hk e
  subst e
  rcases dm hil hz with ⟨rfl,rfl⟩|⟨_,r⟩
  ·exact(hs _ ((ho _).1 hk)).2.2 rfl
  ·exact(h.sep j z r _ hk).2.2 rfl
 ·intro j z hz k hk
  rcases dm hil hz with ⟨rfl,rfl⟩|⟨_,r⟩
  ·exact hs _ ((ho _).1 hk)
  ·exact h.sep j z r _ hk
theorem cw.gU (h:cw w base lo pb mb n np q v T H) {i:Nat} {x:Hd} (hx:H[i]? =some x) {t:Nat} (ht:t≤x.turn+1) {M:List En} (hf:Fr x.own w wa) (hy:(x.to t M).is wa n (jV np n q i)) (hg:Fr (fun k=>k=mb) wa wb) (hu:Un (H.set i (x.to t M)))
  (hm:ij wb mb (aN n (H.set i (x.to t M)) 0) (cS (H.set i (x.to t M)))):cw wb base lo pb mb n np q v (T+1) (H.set i (x.to t M))∧Fr (fun k=>k=mb∨x.own k) w wb:=by
 have hil:i<H.length:=(List.getElem?_eq_some_iff.1 hx).1
 obtain⟨a,b⟩:=h.p.gU hx hf hy hg hm
 refine⟨⟨a,hu,fun j z hz=> ?_⟩,b⟩
 rcases dm hil hz with ⟨rfl,rfl⟩|⟨_,r⟩
 ·have:=h.tn _ x hx
  show t≤T+1
  omega
 ·have:=h.tn j z r
  omega
theorem fR.at (h:fR w base lo pb mb n np q v H) {i:Nat} (hi:i≤np): ∃x,H[i]? =some x:=by
 have:=h.len
 exact⟨H[i]'(by omega),List.getElem?_eq_getElem _⟩
theorem fR.sA (h:fR w base lo pb mb n np q v H):cS H≤66560:=by
 have:=uR (H:=H) (b:=1024) (fun i x hx=>by
  have h1:=(h.sets.it i x hx).fit
  have h2:=h.n1
  have:jV np n q i≤n:=by unfold jV;split<;>omega
  show x.M.length≤1024
  omega)
 rw[h.len] at this
 have:=h.np1
 have:(np+1)*1024≤65*1024:=Nat.mul_le_mul_right _ (by omega)
 omega
theorem cT.roomy {sb qb gq hb gh most turn:Nat} {M:List En} (h:cT w sb qb gq hb gh n most turn M) {id:Nat} (hi:id<n) (hk:keyOf M id=none):M.length<n:=by
 have hnd:=h.nd
 have hr: ∀y∈M,y.1<n:=by obtain⟨R,L,hS,hI⟩:=gD h;exact hI.jj hS
 have hm:=bX.1 hk
 have:=Bq.lV n (id::M.map (·.1)) (List.nodup_cons.2 ⟨fun q=>by obtain⟨y,hy,e⟩:=List.mem_map.1 q;exact hm y hy e,hnd⟩) (by
  intro y hy
  rcases List.mem_cons.1 hy with rfl|hy
  ·exact hi
  ·obtain⟨z,hz,rfl⟩:=List.mem_map.1 hy
   exact hr z hz)
 simp at this
 omega
end
attribute [local go_sem ↓] Go.wp_at_zero Go.wp_at_succ
theorem ak {B:Nat} {w0 w w':World} (h:Below B w0 w) (a:w'.heap=w.heap) (b:w'.os=w.os) (c:w'.tape=w.tape) (d:w'.output=w.output):Below B w0 w':=
 ⟨b.trans h.os,c.trans h.tape,d.trans h.output,by rw[a];exact h.size,fun k hk=>by rw[a];exact h.block k hk⟩
theorem ji {i:Nat} (h:i≤2048):(Lit.int .i64 (i:Int)).wf=true:=by
 have h1:IntKind.i64.min= -9223372036854775808:=by decide
 have h2:IntKind.i64.max=9223372036854775807:=by decide
 simp[Lit.wf,h1,h2]
 omega
section
variable {w w' wa wb:World} {base lo pb mb n np q T g cap:Nat} {v:Value} {H:List Hd}
theorem fR.view (h:fR w base lo pb mb n np q (.slice (some ⟨g,0,none⟩) (np+1) cap) H):w.cell? ⟨pb,0,none⟩=some (.slice (some ⟨g,0,none⟩) (np+1) cap)∧w.cell? ⟨pb,1,none⟩=some (.map (some mb))∧w.cell? ⟨pb,2,none⟩=some (.int .i64 (n:Int))∧(∀(i:Nat) (x:Hd),H[i]? =some x→w.cell? ⟨g,i,none⟩=some (.pointer (some ⟨x.sb,0,none⟩)))∧g<w.heap.size:=by
 refine⟨h.c0,h.c1,h.c2,?_⟩
 obtain⟨g',cap',e,_,h2,h3⟩:=h.rows
 simp at e
 obtain⟨rfl,_⟩:=e
 exact⟨h3,h2⟩
theorem jw (h:cw w base lo pb mb n np q v T H) (k:Ke.K): ∀W,Below (w.heap.size+1) (w.alloc (.cells #[.bool k.e,.int .u64 k.d,.int .u8 k.l] 130)) W→cw W base lo pb mb n np q v T H∧(W.cell? ⟨w.heap.size,0,none⟩=some (.bool k.e)∧W.cell? ⟨w.heap.size,1,none⟩=some (.int .u64 k.d)∧W.cell? ⟨w.heap.size,2,none⟩=some (.int .u8 k.l))∧w.heap.size+1≤W.heap.size∧Below w.heap.size w W:=fun W hW=>by
 have hb:Below w.heap.size w W:=((Below.refl _ _).alloc (Nat.le_refl _) _).trans (hW.mono (by omega))
 refine⟨h.below hb,⟨?_,?_,?_⟩,by have:=hW.size;simpa using this,hb⟩
 ·rw[hW.cell (p:=⟨w.heap.size,0,none⟩) (by simp),Ph.aA];rfl
 ·rw[hW.cell (p:=⟨w.heap.size,1,none⟩) (by simp),Ph.aA];rfl
 ·rw[hW.cell (p:=⟨w.heap.size,2,none⟩) (by simp),Ph.aA];rfl
theorem uj (h:cw w base lo pb mb n np q (.slice (some ⟨g,0,none⟩) (np+1) cap) T H) (hT:T≤1000000000) {i:Nat} {x:Hd} (hx:H[i]? =some x) (id:Nat) (hi:id<n) (k:Ke.K) (hr:Ke.aJ k=true) (hk:k.ok) (hno:keyOf x.M id=none) (hl:x.M.length<jV np n q i):
  ∀W,Below (w.heap.size+1) (w.alloc (.cells #[.bool k.e,.int .u64 k.d,.int .u8 k.l] 130)) W→
  Calls Tryz.prog 167 #[.pointer (some ⟨x.sb,0,none⟩),.int .i64 (id:Int),.agg #[.bool k.e,.int .u64 k.d,.int .u8 k.l]] W fun e w'=>e= .returned (.int .i64 0)∧
   (w'.cell? ⟨pb,0,none⟩=some (.slice (some ⟨g,0,none⟩) (np+1) cap)∧w'.cell? ⟨g,i,none⟩=some (.pointer (some ⟨x.sb,0,none⟩))∧w'.cell? ⟨w.heap.size,0,none⟩=some (.bool k.e)∧w'.cell? ⟨w.heap.size,1,none⟩=some (.int .u64 k.d)∧w'.cell? ⟨w.heap.size,2,none⟩=some (.int .u8 k.l))∧
   w'.cell? ⟨pb,1,none⟩=some (.map (some mb))∧ij w' mb (aN n H 0) (cS H)∧(x.to (x.turn+1) (put (id,k) x.M)).is w' n (jV np n q i)∧Fr x.own w w':=fun W hW=>by
 obtain⟨hQ,⟨k0,k1,k2⟩,hz,hb⟩:=jw h k W hW
 have hs:=hQ.p.sets.it i x hx
 obtain⟨c0,c1,_,c3,hgl⟩:=hQ.p.view
 have hsp:=hQ.p.sep i x hx
 have hne:=hQ.p.ne
 have hbl:=(h.p.sets.it i x hx).blocks
 refine(uq hs (by have:=h.tn i x hx;omega) id k hi hr hk hno hl).mono ?_
 rintro e w1 ⟨rfl,h1,hf⟩
 have hf':Fr x.own W w1:=hf
 have nb: ¬x.own w.heap.size:=fun q=>by have:=hbl _ q;omega
 have ng: ¬x.own g:=fun q=>(hsp g q).1 rfl
 have npb: ¬x.own pb:=fun q=>(hsp pb q).2.1 rfl
 have nm: ¬x.own mb:=fun q=>(hsp mb q).2.2 rfl
 have hpl:=hQ.p.Dx
 refine⟨rfl,⟨(hf'.cell (a:=⟨pb,0,none⟩) hpl npb).trans c0,(hf'.cell (a:=⟨g,i,none⟩) hgl ng).trans (c3 i x hx),(hf'.cell (a:=⟨w.heap.size,0,none⟩) (by show w.heap.size<_;omega) nb).trans k0,(hf'.cell (a:=⟨w.heap.size,1,none⟩) (by show w.heap.size<_;omega) nb).trans k1,(hf'.cell (a:=⟨w.heap.size,2,none⟩) (by show w.heap.size<_;omega) nb).trans k2⟩,
  (hf'.cell (a:=⟨pb,1,none⟩) hpl npb).trans c1,hQ.p.map.block (hf'.block _ hQ.p.map.lt nm),h1,(Fr.aC hb).trans hf'⟩
theorem ue (h:fR w base lo pb mb n np q v H) (p:Nat) (hp:p<np):
  Calls Tryz.prog 133 #[.pointer (some ⟨pb,0,none⟩),.int .i64 (p:Int)] w fun e w'=>e= .returned (.bool true)∧w'=w:=by
 have:=pd h (p:Int)
 rw[decide_eq_true ⟨by omega,by omega⟩] at this
 exact this
def zF (w w':World) (base lo pb mb n np q:Nat) (v:Value) (T:Nat) (H:List Hd) (i:Nat) (x:Hd) (M:List En):Prop:=
 cw w' base lo pb mb n np q v (T+1) (H.set i (x.to (x.turn+1) M))∧Fr (fun k=>k=mb∨x.own k) w w'
theorem rh (h:cw w base lo pb mb n np q v T H) {i:Nat} {x:Hd} (hx:H[i]? =some x) {id:Nat} (hi:id<n) {k:Ke.K} (hw:aN n H 0 (id:Int)=none)
  (hy:(x.to (x.turn+1) (put (id,k) x.M)).is wa n (jV np n q i)) (hf:Fr x.own w wa) (hg:wa.grownBy wb (some mb)) (hm:ij wb mb (gM (aN n H 0) (id:Int) (some (i:Int))) (if (aN n H 0 (id:Int)).isSome then cS H else cS H+1)):
  zF w wb base lo pb mb n np q v T H i x (put (id,k) x.M):=by
 obtain⟨u1,u2⟩:=wB (y:=x.to (x.turn+1) (put (id,k) x.M)) h.un hx hi rfl hw
 refine h.gU hx (Nat.le_refl _) hf hy ⟨hg.os,hg.tape,hg.output,hg.size,fun j hj hn=>hg.block j hj (fun e=>hn (Option.some.inj e))⟩ u1 ?_
 rw[u2]
 have hs:=dX (y:=x.to (x.turn+1) (put (id,k) x.M)) hx
 have e:cS (H.set i (x.to (x.turn+1) (put (id,k) x.M)))=cS H+1:=by
  have:(x.to (x.turn+1) (put (id,k) x.M)).M.length=x.M.length+1:=jR
  omega
 rw[e]
 rw[hw] at hm
 exact hm
theorem wj (h:cw w base lo pb mb n np q (.slice (some ⟨g,0,none⟩) (np+1) cap) T H) (hT:T≤1000000000) (p:Nat) (hp:p<np) {x:Hd} (hx:H[p]? =some x) (id:Nat) (hi:id<n) (k:Ke.K) (hr:Ke.aJ k=true) (hk:k.ok) (hw:aN n H 0 (id:Int)=none) (hl:x.M.length<jV np n q p):
  Calls Tryz.prog 132 #[.pointer (some ⟨pb,0,none⟩),.int .i64 (p:Int),.int .i64 (id:Int),.agg #[.bool k.e,.int .u64 k.d,.int .u8 k.l]] w fun e w'=>e= .returned (.int .i64 0)∧zF w w' base lo pb mb n np q (.slice (some ⟨g,0,none⟩) (np+1) cap) T H p x (put (id,k) x.M):=by
 have hn1:=h.p.n1
 have hnp1:=h.p.np1
 have HX:=aa (jw h k)
 have HPUT:=aa (uj h hT hx id hi k hr hk (dt hw hi hx) hl)
 have HDONE:=aa (fun wa wb a b c d=>rh (wa:=wa) (wb:=wb) (k:=k) h hx hi hw a b c d)
 have HR:=aa (fun W=>by have:=Ke.cY W k;rw[hr] at this;exact this)
 have hsum:=h.p.sA
 have HW:=aa hw
 have wfi:=ji (i:=id) (by omega)
 have wfp:=ji (i:=p) (by omega)
 have hA0:Below (w.heap.size+1) (w.alloc (.cells #[.bool k.e,.int .u64 k.d,.int .u8 k.l] 130)) (w.alloc (.cells #[.bool k.e,.int .u64 k.d,.int .u8 k.l] 130)):=Below.refl _ _
 have HA:=aa hA0
 obtain⟨hQ0,⟨k0,k1,k2⟩,hz0,_⟩:=jw h k _ hA0
 have HHAS:=aa (ue hQ0.p p hp)
 obtain⟨c0,c1,c2,_,_⟩:=hQ0.p.view
 have i0: ¬(id:Int)<0:=by omega
 have i1: ¬(n:Int)≤(id:Int):=by omega
 have i2:(id:Int)<(n:Int):=by omega
 have b1:(p:Int)<(np:Int)+1:=by omega
 have b2:(p:Int)<((np+1:Nat):Int):=by omega
 have b3:p<np+1:=by omega
 have b4: ¬(p:Int)<0:=by omega
 have HXX:=aa hx
 clear h hQ0 hA0 hw hx
 go_enter Tryz.func132,Tryz.ntmps132
 go_wp2_with (first
  |(go_at_call 133;refine(HHAS.out).mono ?_;rintro e w1 ⟨rfl,hw1⟩;replace hw1:=hw1.symm;subst hw1)
  |(go_at_call 112;refine(HR.out _).mono ?_;rintro e w2 ⟨rfl,hb2⟩;have HB2:=aa (HA.out.trans (hb2.mono hz0));obtain⟨hQ2,⟨k20,k21,k22⟩,hz2,_⟩:=HX.out _ HB2.out;have hl2:=hQ2.p.map.look id wfi;rw[HW.out] at hl2;simp only[Option.getD_none,Option.isSome_none] at hl2;obtain⟨c20,c21,c22,c23,_⟩:=hQ2.p.view;have c24:=c23 p x HXX.out;clear hQ2 c23 hb2))
 go_region_held3 (fun w'=>w'.cell? ⟨pb,0,none⟩=some (.slice (some ⟨g,0,none⟩) (np+1) cap)∧w'.cell? ⟨g,p,none⟩=some (.pointer (some ⟨x.sb,0,none⟩))∧w'.cell? ⟨w.heap.size,0,none⟩=some (.bool k.e)∧w'.cell? ⟨w.heap.size,1,none⟩=some (.int .u64 k.d)∧w'.cell? ⟨w.heap.size,2,none⟩=some (.int .u8 k.l))
  (first
   |exact S3.out
   |go_keep)
  (first
   |(go_at_call 167;refine(HPUT.out _ (by exact ak HB2.out rfl rfl rfl rfl)).mono ?_;rintro e w3 ⟨rfl,hs3,c31,hm3,hy3,hf3⟩;have S3:=aa hs3;have HM3:=aa hm3;have HY3:=aa hy3;have HF3:=aa hf3;clear hs3 hm3 hy3 hf3))
 go_wp2_with (first
  |(at_mapUpdate;refine gY rfl _ _ _ rfl (by exact HM3.out) (by unfold maxLen;omega) (id:Int) (p:Int) wfi wfp rfl rfl rfl ?_;intro w4 hm4 hg4;have HD:=aa (HDONE.out _ _ HY3.out HF3.out (by exact hg4) hm4);clear hm4 hg4))
 go_ret
 exact⟨rfl,HD.out⟩
end
section
variable {w w' wa wb:World} {base lo pb mb n np q T g cap:Nat} {v:Value} {H:List Hd}
theorem wO (h:cw w base lo pb mb n np q (.slice (some ⟨g,0,none⟩) (np+1) cap) T H) (hT:T≤1000000000) (p:Nat) (hp:p<np) {x y:Hd} (hx:H[p]? =some x) (hy:H[np]? =some y) (id:Nat) (hi:id<n) (k:Ke.K) (hr:Ke.aJ k=true) (hk:k.ok) (hw:aN n H 0 (id:Int)=none) (hl:x.M.length=jV np n q p):
  Calls Tryz.prog 132 #[.pointer (some ⟨pb,0,none⟩),.int .i64 (p:Int),.int .i64 (id:Int),.agg #[.bool k.e,.int .u64 k.d,.int .u8 k.l]] w fun e w'=>e= .returned (.int .i64 0)∧zF w w' base lo pb mb n np q (.slice (some ⟨g,0,none⟩) (np+1) cap) T H np y (put (id,k) y.M):=by
 have hn1:=h.p.n1
 have hnp1:=h.p.np1
 have HX:=aa (jw h k)
 have hroom:y.M.length<jV np n q np:=by
  have:=cT.roomy (h.p.sets.it np y hy) hi (dt hw hi hy)
  unfold jV
  rw[if_neg (by omega)]
  exact this
 have HPUT:=aa (uj h hT hy id hi k hr hk (dt hw hi hy) hroom)
 have HFULL:Hid (∀W,Below (w.heap.size+1) (w.alloc (.cells #[.bool k.e,.int .u64 k.d,.int .u8 k.l] 130)) W→Calls Tryz.prog 167 #[.pointer (some ⟨x.sb,0,none⟩),.int .i64 (id:Int),.agg #[.bool k.e,.int .u64 k.d,.int .u8 k.l]] W fun e w'=>e= .returned (.int .i64 4)∧Below (w.heap.size+1) (w.alloc (.cells #[.bool k.e,.int .u64 k.d,.int .u8 k.l] 130)) w'):=fun W hW=>by
  obtain⟨hQ,_,hz,_⟩:=jw h k W hW
  refine(oO (hQ.p.sets.it p x hx) id hi k hr (dt hw hi hx) hl).mono ?_
  rintro e w1 ⟨rfl,hb⟩
  exact⟨rfl,hW.trans (hb.mono hz)⟩
 have HDONE:=aa (fun wa wb a b c d=>rh (wa:=wa) (wb:=wb) (k:=k) h hy hi hw a b c d)
 have HR:=aa (fun W=>by have:=Ke.cY W k;rw[hr] at this;exact this)
 have HSH:=aa (fun W h0=>ki W pb np (some ⟨g,0,none⟩) cap hnp1.2 h0)
 have hsum:=h.p.sA
 have HW:=aa hw
 have wfi:=ji (i:=id) (by omega)
 have wfp:=ji (i:=np) (by omega)
 have hA0:Below (w.heap.size+1) (w.alloc (.cells #[.bool k.e,.int .u64 k.d,.int .u8 k.l] 130)) (w.alloc (.cells #[.bool k.e,.int .u64 k.d,.int .u8 k.l] 130)):=Below.refl _ _
 have HA:=aa hA0
 obtain⟨hQ0,⟨k0,k1,k2⟩,hz0,_⟩:=jw h k _ hA0
 have HHAS:=aa (ue hQ0.p p hp)
 obtain⟨c0,c1,c2,_,_⟩:=hQ0.p.view
 have i0: ¬(id:Int)<0:=by omega
 have i1: ¬(n:Int)≤(id:Int):=by omega
 have i2:(id:Int)<(n:Int):=by omega
 have b1:(p:Int)<(np:Int)+1:=by omega
 have b2:(p:Int)<((np+1:Nat):Int):=by omega
 have b3:p<np+1:=by omega
 have b4: ¬(p:Int)<0:=by omega
 have d1:(np:Int)<(np:Int)+1:=by omega
 have d2:(np:Int)<((np+1:Nat):Int):=by omega
 have d3:np<np+1:=by omega
 have d4: ¬(np:Int)<0:=by omega
 have HXX:=aa hx
 have HYY:=aa hy
 clear h hQ0 hA0 hw hx hy hl hroom
 go_enter Tryz.func132,Tryz.ntmps132
 go_wp2_with (first
  |(go_at_call 133;refine(HHAS.out).mono ?_;rintro e w1 ⟨rfl,hw1⟩;replace hw1:=hw1.symm;subst hw1)
  |(go_at_call 112;refine(HR.out _).mono ?_;rintro e w2 ⟨rfl,hb2⟩;have HB2:=aa (HA.out.trans (hb2.mono hz0));obtain⟨hQ2,⟨k20,k21,k22⟩,hz2,_⟩:=HX.out _ HB2.out;have hl2:=hQ2.p.map.look id wfi;rw[HW.out] at hl2;simp only[Option.getD_none,Option.isSome_none] at hl2;obtain⟨c20,c21,c22,c23,_⟩:=hQ2.p.view;have c24:=c23 p x HXX.out;clear hQ2 c23 hb2))
 go_region_held3 (fun w'=>w'.cell? ⟨pb,0,none⟩=some (.slice (some ⟨g,0,none⟩) (np+1) cap)∧w'.cell? ⟨g,p,none⟩=some (.pointer (some ⟨x.sb,0,none⟩))∧w'.cell? ⟨w.heap.size,0,none⟩=some (.bool k.e)∧w'.cell? ⟨w.heap.size,1,none⟩=some (.int .u64 k.d)∧w'.cell? ⟨w.heap.size,2,none⟩=some (.int .u8 k.l))
  (first
   |exact⟨c30,c34,k30,k31,k32⟩
   |go_keep)
  (first
   |(go_at_call 167;refine(HFULL.out _ (by exact ak HB2.out rfl rfl rfl rfl)).mono ?_;rintro e w3 ⟨rfl,hb3⟩;have HB3:=aa hb3;obtain⟨hQ3,⟨k30,k31,k32⟩,hz3,_⟩:=HX.out _ HB3.out;obtain⟨c30,c31,c32,c33,_⟩:=hQ3.p.view;have c34:=c33 p x HXX.out;have c35:=c33 np y HYY.out;have C30:=aa c30;clear hQ3 c33 hb3))
 go_wp2_with (first
  |(go_at_call 154;refine(HSH.out _ (by exact C30.out)).mono ?_;rintro e w4 ⟨rfl,hw4⟩;replace hw4:=hw4.symm;subst hw4))
 go_region_held3 (fun w'=>w'.cell? ⟨pb,0,none⟩=some (.slice (some ⟨g,0,none⟩) (np+1) cap)∧w'.cell? ⟨g,np,none⟩=some (.pointer (some ⟨y.sb,0,none⟩))∧w'.cell? ⟨w.heap.size,0,none⟩=some (.bool k.e)∧w'.cell? ⟨w.heap.size,1,none⟩=some (.int .u64 k.d)∧w'.cell? ⟨w.heap.size,2,none⟩=some (.int .u8 k.l))
  (first
   |exact S5.out
   |exact⟨c30,c35,k30,k31,k32⟩
   |go_keep)
  (first
   |(go_at_call 167;refine(HPUT.out _ (by exact ak HB3.out rfl rfl rfl rfl)).mono ?_;rintro e w5 ⟨rfl,hs5,c51,hm5,hy5,hf5⟩;have S5:=aa hs5;have HM5:=aa hm5;have HY5:=aa hy5;have HF5:=aa hf5;clear hs5 hm5 hy5 hf5))
 go_wp2_with (first
  |(at_mapUpdate;refine gY rfl _ _ _ rfl (by exact HM5.out) (by unfold maxLen;omega) (id:Int) (np:Int) wfi wfp rfl rfl rfl ?_;intro w6 hm6 hg6;have HD:=aa (HDONE.out _ _ HY5.out HF5.out (by exact hg6) hm6);clear hm6 hg6))
 go_ret
 exact⟨rfl,HD.out⟩
end
end Go.Proofs.YtdbailcdlngemaaGreatDoor
namespace Go.Proofs.YtdbailcdlngemaaGreatDoor
open Go.RowKit Go.Shelf
attribute [local go_sem] Oper.semAt_some
abbrev Pl (np:Nat):={x:Nat//x≤np}
def lr (np p d i:Nat):Nat:=(p+1+d%np+i)%np
def eD (np p d i:Nat):List Nat:=p::np::((List.range i).map (lr np p d)).filter (· !=p)
def di (np p d:Nat):List Nat:=eD np p d np
theorem ou {np p d i:Nat} (h:lr np p d i≠p):eD np p d (i+1)=eD np p d i++[lr np p d i]:=by
 unfold eD
 rw[List.range_succ,List.map_append,List.filter_append]
 simp[h]
theorem qx {np p d i:Nat} (h:lr np p d i=p):eD np p d (i+1)=eD np p d i:=by
 unfold eD
 rw[List.range_succ,List.map_append,List.filter_append]
 simp[h]
theorem wE (np p d i:Nat):(eD np p d i).length≤i+2:=by
 unfold eD
 have:=List.length_filter_le (· !=p) ((List.range i).map (lr np p d))
 simp at this⊢
 omega
theorem im {np p d i:Nat}: ∀{j:Nat},i≤j→eD np p d i<+:eD np p d j
 |0,h=>by
  have:i=0:=by omega
  rw[this]
  exact List.prefix_refl _
 |j+1,h=>by
  rcases Nat.eq_or_lt_of_le h with e|e
  ·rw[e];exact List.prefix_refl _
  ·have:=im (np:=np) (p:=p) (d:=d) (i:=i) (j:=j) (by omega)
   by_cases q:lr np p d j=p
   ·rw[qx q];exact this
   ·rw[ou q];exact this.trans (List.prefix_append _ _)
structure CP (W:World) (B1 B2 B3 pb np p d:Nat) (a:Option Addr) (cap:Nat):Prop where
 l1:B1<W.heap.size
 l2:B2<W.heap.size
 l3:B3<W.heap.size
 l4:pb<W.heap.size
 c1:W.cell? ⟨B1,0,none⟩=some (.int .i64 (p:Int))
 c2:W.cell? ⟨B2,0,none⟩=some (.pointer (some ⟨pb,0,none⟩))
 c3:W.cell? ⟨B3,0,none⟩=some (.int .u64 (d:Int))
 c0:W.cell? ⟨pb,0,none⟩=some (.slice a (np+1) cap)
theorem CP.fr {W W':World} {B1 B2 B3 pb np p d:Nat} {a:Option Addr} {cap:Nat} {S:Nat→Prop} (h:CP W B1 B2 B3 pb np p d a cap) (hS: ¬S B1∧ ¬S B2∧ ¬S B3∧ ¬S pb) (hf:Fr S W W'):CP W' B1 B2 B3 pb np p d a cap:=
 ⟨Nat.lt_of_lt_of_le h.l1 hf.size,Nat.lt_of_lt_of_le h.l2 hf.size,Nat.lt_of_lt_of_le h.l3 hf.size,Nat.lt_of_lt_of_le h.l4 hf.size,(hf.cell (a:=⟨B1,0,none⟩) h.l1 hS.1).trans h.c1,(hf.cell (a:=⟨B2,0,none⟩) h.l2 hS.2.1).trans h.c2,(hf.cell (a:=⟨B3,0,none⟩) h.l3 hS.2.2.1).trans h.c3,(hf.cell (a:=⟨pb,0,none⟩) h.l4 hS.2.2.2).trans h.c0⟩
theorem iu (nn:Nat) (hn:1≤nn) (l B1 B2 B3 pb np p d:Nat) (a:Option Addr) (cap:Nat) (hp:p<np) (hnp:np≤64) (hd:d<18446744073709551616) (S:Nat→Prop) (hS: ¬S B1∧ ¬S B2∧ ¬S B3∧ ¬S pb) (J Jx:List (Pl np)→World→Prop)
  (hY: ∀pre x W,J pre W→pre.length<np+2→YieldAt Fence.wide (nn-1) Tryz.prog l #[.int .i64 (x.1:Int)] W fun e W'=>
   (e= .returned (.bool true)∧J (pre++[x]) W'∧Fr S W W')∨(e= .returned (.bool false)∧Jx (pre++[x]) W'))
  (hD: ∀pre W q,J pre W→J pre (World.drewN W q))
  (W:World) (hR:CP W B1 B2 B3 pb np p d a cap) (h0:J [] W):
  CallsIn Fence.wide nn Tryz.prog 168 #[.func (.yield l) #[] #[],.pointer (some ⟨B1,0,none⟩),.pointer (some ⟨B2,0,none⟩),.pointer (some ⟨B3,0,none⟩)] W fun e W'=>(∃v,e= .returned v)∧
   ((∃ys:List (Pl np),ys.map (·.1)=di np p d∧J ys W')∨(∃pre:List (Pl np),pre.map (·.1)<+:di np p d∧Jx pre W')):=by
 have c1:=hR.c1
 have c2:=hR.c2
 have HR:=aa hR
 have HY:=aa hY
 have HD:=aa hD
 have HS:=aa hS
 have HSH:=aa (fun W h0=>(callsIn_wide (n:=nn-1)).2 (ki W pb np a cap hnp h0))
 obtain⟨fn,tmps,assign,body,hy,hRd⟩:=hY [] ⟨p,by omega⟩ W h0 (by simp)
 dsimp only at hy
 have HRD:=aa hRd
 clear hR hY hD hS h0 hRd
 refine callsIn_of_wp Tryz.func168 rfl trivial ?_ rfl
 simp only[Tryz.ntmps168,List.size_toArray,List.length_cons,List.length_nil,Nat.reduceAdd,Nat.reduceSub,Array.replicate_succ,Array.replicate_zero,List.push_toArray,List.append_toArray,List.nil_append,List.cons_append]
 gi_wp2
 refine HRD.out.mono ?_
 rintro e W1 (⟨rfl,hJ1,hk1⟩|⟨rfl,hJx1⟩)
 ·have HR1:=aa (HR.out.fr HS.out hk1)
  have HJ1:=aa hJ1
  have d2:=HR1.out.c2
  have D0:=aa HR1.out.c0
  clear hJ1 hk1 c1 c2 hy HRD
  gi_wp2_with (refine⟨trivial,?_⟩;gi_at_call 154;refine(HSH.out _ D0.out).mono ?_;rintro e w2 ⟨rfl,hw2⟩;replace hw2:=hw2.symm;subst hw2)
  obtain⟨fn,tmps,assign,body,hy,hRd⟩:=HY.out [⟨p,by omega⟩] ⟨np,by omega⟩ W1 HJ1.out (by simp)
  dsimp only at hy
  rw[hy,Oper.uponIn_round]
  refine⟨fun _=>hn,hRd.mono ?_⟩
  rintro e W2 (⟨rfl,hJ2,hk2⟩|⟨rfl,hJx2⟩)
  ·have HR2:=aa (HR1.out.fr HS.out hk2)
   have HJ2:=aa hJ2
   have e1:=HR2.out.c1
   have e2:=HR2.out.c2
   have e3:=HR2.out.c3
   have E0:=aa HR2.out.c0
   have z0: ¬(np:Int)=0:=by omega
   clear hJ2 hk2 d2 D0 hy hRd
   gi_wp2_with (refine⟨trivial,?_⟩;gi_at_call 154;refine(HSH.out _ E0.out).mono ?_;rintro e w2 ⟨rfl,hw2⟩;replace hw2:=hw2.symm;subst hw2)
   gi_quiet (fail)
   gi_wp2
   have ew:wrap64 ((p:Int)+1+wrap64 ((d:Int)%(np:Int)))=((p+1+d%np:Nat):Int):=by
    have h1:(d:Int)%(np:Int)=((d%np:Nat):Int):=by omega
    have h2:d%np<np:=Nat.mod_lt _ (by omega)
    rw[h1]
    unfold wrap64
    omega
   simp only[ew]
   have hf:p+1+d%np≤128:=by
    have h2:d%np<np:=Nat.mod_lt _ (by omega)
    omega
   have HPL:Hid (∀i,(p+1+d%np+i)%np=lr np p d i):=fun i=>rfl
   generalize p+1+d%np=f at*
   have HDR:=aa (HD.out _ _ nq HJ2.out)
   have HRR:=aa (show CP (W2.drewN nq) B1 B2 B3 pb np p d a cap from⟨HR2.out.l1,HR2.out.l2,HR2.out.l3,HR2.out.l4,HR2.out.c1,HR2.out.c2,HR2.out.c3,HR2.out.c0⟩)
   clear HJ2 HR2 e1 e2 e3 E0 ew
   gi_loopw [31] (fun v wr=> ∃i:Nat,i≤np∧v= .int .i64 (i:Int)∧CP wr B1 B2 B3 pb np p d a cap∧ ∃ys:List (Pl np),ys.map (·.1)=eD np p d i∧J ys wr) (fun v _=>np-(intOf v).toNat)
   case atStart=>exact⟨0,Nat.zero_le _,rfl,HRR.out,_,rfl,HDR.out⟩
   case round=>
    obtain⟨i,hi,rfl,hRi,ys,hys,hJi⟩:=hrel
    have g1:=hRi.c1
    have HRi:=aa hRi
    have HJi:=aa hJi
    have HYS:=aa hys
    clear hRi hJi hys
    by_cases hil:i<np
    ·have hil':(i:Int)<(np:Int):=by omega
     obtain⟨x,hx⟩: ∃x,lr np p d i=x:=⟨_,rfl⟩
     have em:((f:Int)+(i:Int))%(np:Int)=(x:Int):=by rw[←hx,←HPL.out i];push_cast;rfl
     by_cases hxp:x=p
     ·rw[hxp] at em
      have HNX:=aa (show ys.map (·.1)=eD np p d (i+1) by rw[qx (hx.trans hxp)];exact HYS.out)
      clear hx hxp
      gi_wp2
      refine⟨fun _ h=>(by cases h),?_⟩
      gi_wp2
      go_roundw
      case rel=>exact⟨i+1,by omega,by go_num,HRi.out,ys,HNX.out,HJi.out⟩
      case measure=>simp[intOf];omega
     ·have hxn:x≤np:=by rw[←hx];exact Nat.le_of_lt (Nat.mod_lt _ (by omega))
      have en:((x:Int) !=(p:Int))=true:=by simp;omega
      have HNX:=aa (show(ys++[(⟨x,hxn⟩:Pl np)]).map (·.1)=eD np p d (i+1) by rw[ou (by rw[hx];exact hxp),List.map_append,HYS.out,hx];rfl)
      have hlen:ys.length<np+2:=by
       have:=wE np p d i
       rw[←HYS.out,List.length_map] at this
       omega
      obtain⟨fn,tmps,assign,body,hy,hRd⟩:=HY.out ys ⟨x,hxn⟩ wr HJi.out hlen
      dsimp only at hy
      have HRD:=aa hRd
      clear hx hlen hRd
      gi_wp2
      refine HRD.out.mono ?_
      rintro e W3 (⟨rfl,hJ3,hk3⟩|⟨rfl,hJx3⟩)
      ·have HR3:=aa (HRi.out.fr HS.out hk3)
       have HJ3:=aa hJ3
       clear hJ3 hk3 hy
       gi_wp2
       go_roundw
       case rel=>exact⟨i+1,by omega,by go_num,HR3.out,_,HNX.out,HJ3.out⟩
       case measure=>simp[intOf];omega
      ·have HJx:=aa hJx3
       clear hJx3 hy
       gi_wp2
       refine bodyPost_ret (results_none rfl _ _ _) rfl ?_
       refine⟨⟨_,rfl⟩,.inr ⟨_,?_,HJx.out⟩⟩
       rw[HNX.out]
       exact im (by omega)
    ·obtain rfl:i=np:=by omega
     gi_wp2
     go_end0
     exact⟨⟨_,rfl⟩,.inl ⟨ys,HYS.out,HJi.out⟩⟩
  ·have HJx:=aa hJx2
   clear hJx2
   gi_wp2
   refine bodyPost_ret (results_none rfl _ _ _) rfl ?_
   refine⟨⟨_,rfl⟩,.inr ⟨_,?_,HJx.out⟩⟩
   exact im (i:=0) (Nat.zero_le _)
 ·have HJx:=aa hJx1
  clear hJx1
  gi_wp2
  refine⟨trivial,?_⟩
  gi_wp2
  refine⟨fun _ h=>(by cases h),?_⟩
  gi_wp2
  refine bodyPost_ret (results_none rfl _ _ _) rfl ?_
  refine⟨⟨_,rfl⟩,.inr ⟨_,?_,HJx.out⟩⟩
  exact(show [p]<+:[p,np] from⟨[np],rfl⟩).trans (im (np:=np) (p:=p) (d:=d) (i:=0) (Nat.zero_le np))
end Go.Proofs.YtdbailcdlngemaaGreatDoor
namespace Go.Proofs.YtdbailcdlngemaaGreatDoor
open Go.RowKit Go.Shelf
def MM (H:List Hd) (x:Nat):List En:=match H[x]? with
 |some h=>h.M
 |none=>[]
def cF (H:List Hd) (b:Option Nat) (x:Nat):Option Nat:=match MM H x with
 |[]=>b
 |y::_=>match b with
  |none=>some x
  |some c=>if Ke.up y.2 (gF (MM H c)) then some x else some c
def iA (H:List Hd) (l:List Nat):Option Nat:=l.foldl (cF H) none
def bI (H:List Hd):Option Nat→Int
 |none=>0
 |some c=>rL (MM H c)
def bK (H:List Hd):Option Nat→Ke.K
 |none=>⟨false,0,0⟩
 |some c=>gF (MM H c)
def bA:Option Nat→Int
 |none=>0
 |some c=>(c:Int)
def dD (H:List Hd) (l:List Nat):Nat:=(l.map (fun x=>(MM H x).length)).sum
def pa (H:List Hd) (l:List Nat):Int:=(cS H:Int)-(dD H l:Int)
theorem cm {H:List Hd} {x:Nat} {h:Hd} (e:H[x]? =some h):MM H x=h.M:=by unfold MM;rw[e]
theorem rn (H:List Hd) (l:List Nat) (x:Nat):iA H (l++[x])=cF H (iA H l) x:=by unfold iA;rw[List.foldl_append];rfl
theorem zB (H:List Hd) (l:List Nat) (x:Nat):pa H (l++[x])=pa H l-((MM H x).length:Int):=by
 unfold pa dD
 rw[List.map_append,List.sum_append]
 simp
 omega
theorem qR (H:List Hd): ∀(l r:List Nat),(∀x∈r,MM H x=[])→iA H (l++r)=iA H l
 |l,[],_=>by rw[List.append_nil]
 |l,x::r,h=>by
  have e:l++x::r=(l++[x])++r:=by simp
  rw[e,qR H (l++[x]) r (fun y hy=>h y (by simp[hy])),rn]
  unfold cF
  rw[h x (by simp)]
theorem mw: ∀(l:List Nat) (H:List Hd),l.Nodup→dD H l≤cS H
 |[],_,_=>by simp[dD]
 |x::l,H,hn=>by
  rw[List.nodup_cons] at hn
  cases hx:H[x]? with
  |none=>
   have:=mw l H hn.2
   have e:MM H x=[]:=by unfold MM;rw[hx]
   simp only[dD,List.map_cons,List.sum_cons,e,List.length_nil] at this⊢
   omega
  |some h=>
   have ih:=mw l (H.set x (h.to 0 [])) hn.2
   have hs:=dX (y:=h.to 0 []) hx
   have e:dD (H.set x (h.to 0 [])) l=dD H l:=by
    unfold dD
    congr 1
    refine List.map_congr_left (fun y hy=> ?_)
    have hne:x≠y:=fun q=>hn.1 (by rw[q];exact hy)
    unfold MM
    rw[List.getElem?_set_ne hne]
   have e1:(h.to 0 []).M.length=0:=rfl
   have e2:=cm hx
   simp only[dD,List.map_cons,List.sum_cons,e2] at*
   omega
theorem sR (np p d:Nat) (hp:p<np):(di np p d).Nodup:=by
 have hlt: ∀i,lr np p d i<np:=fun i=>Nat.mod_lt _ (by omega)
 have hm:((List.range np).map (lr np p d)).Nodup:=by
  rw[List.Nodup,List.pairwise_map]
  refine List.Pairwise.imp_of_mem ?_ (List.nodup_range (n:=np))
  intro a b ha hb hne
  rw[List.mem_range] at ha hb
  unfold lr
  intro e
  apply hne
  have h1:=Nat.div_add_mod (p+1+d%np+a) np
  have h2:=Nat.div_add_mod (p+1+d%np+b) np
  rw[e] at h1
  rcases Nat.lt_trichotomy ((p+1+d%np+a)/np) ((p+1+d%np+b)/np) with q|q|q
  ·have:=Nat.mul_le_mul_left np (show(p+1+d%np+a)/np+1≤(p+1+d%np+b)/np from q)
   rw[Nat.mul_add] at this
   omega
  ·rw[q] at h1;omega
  ·have:=Nat.mul_le_mul_left np (show(p+1+d%np+b)/np+1≤(p+1+d%np+a)/np from q)
   rw[Nat.mul_add] at this
   omega
 unfold di eD
 rw[List.nodup_cons,List.nodup_cons]
 refine⟨?_,?_,hm.sublist List.filter_sublist⟩
 ·simp only[List.mem_cons,List.mem_filter]
  rintro(q|q)
  ·omega
  ·simp at q
 ·intro q
  obtain⟨q1,_⟩:=List.mem_filter.1 q
  obtain⟨i,_,e⟩:=List.mem_map.1 q1
  have:=hlt i
  omega
theorem vy (H:List Hd) (np p d:Nat) (hp:p<np) (l:List Nat) (hl:l<+:di np p d) (h0:pa H l=0):iA H (di np p d)=iA H l:=by
 obtain⟨r,hr⟩:=hl
 have h1:=mw (di np p d) H (sR np p d hp)
 rw[←hr] at h1⊢
 unfold pa at h0
 have h2:dD H (l++r)=dD H l+dD H r:=by unfold dD;rw[List.map_append,List.sum_append]
 have h3:dD H r=0:=by omega
 refine qR H l r (fun x hx=> ?_)
 unfold dD at h3
 rw[List.sum_eq_zero_iff_forall_eq_nat] at h3
 have:=h3 _ (List.mem_map.2 ⟨x,hx,rfl⟩)
 exact List.length_eq_zero_iff.1 this
attribute [local go_sem] Oper.semAt_some
def cQ (ops:Array Oper):Bool:=ops.all fun o=>match o.op with
 | .defer _=>false
 |_=>true
theorem eV {ops:Array Oper} (h:cQ ops=true) {i:Nat} {o:Oper} (ho:ops[i]? =some o): ∀c,o.op≠ .defer c:=by
 intro c e
 unfold cQ at h
 rw[Array.all_eq_true'] at h
 have:=h o (Array.mem_of_getElem? ho)
 rw[e] at this
 exact absurd this (by simp)
theorem eU {P:Program} {o:Oper} {a:Act} {w:World} {K:Act→World→Prop} {Q:Exit→Act→World→Prop} {l n:Nat} (hd: ∀c,o.op≠ .defer c) (h:o.wp P a w K Q):o.wpIn (Fence.wide.inRound l) n P a w K Q:=by
 refine⟨fun _ _=>trivial,?_⟩
 rw[Oper.semAt_eq _ _ _ hd]
 unfold Oper.wp at h
 revert h
 generalize (execOp a.eval o).run P w=r
 intro h
 match r,h with
 | .ok (.value _) _,h=>exact h
 | .ok .skip _,h=>exact h
 | .ok (.defer _) _,h=>exact h
 | .ok (.enter f args) w',h=>exact⟨fun q=>absurd q (by simp[Fence.inRound,Fence.wide]),CallsIn.inRound l (callsIn_wide.2 h)⟩
 | .ok (.row row args) w',h=>
  refine⟨fun q=>absurd q (by simp[Fence.inRound,Fence.wide]),fun c cs _=> ?_⟩
  obtain⟨v,w'',r1,s⟩:=h c cs
  exact⟨v,w'',r1,stepsIn_wide.2 s⟩
 | .halt (.panic _) _,h=>exact h
theorem bN {P:Program} {md:Region.Mode} {ops:Array Oper} {Q:Exit→Act→World→Prop} {l n:Nat} (hd:cQ ops=true) (hlo: ¬LetsOut Q): ∀(fuel:Nat) (listed:Array Bool) (a:Act) (w:World),wpAny P md ops Q fuel listed a w→wpAnyIn (Fence.wide.inRound l) n P md ops Q fuel listed a w
 |0,_,_,_,h=>h
 |fuel+1,_,a,w,h=>⟨h.1,fun i hi=>by
  have h2:=h.2 i hi
  unfold wpOp at h2
  unfold wpOpIn
  cases ho:ops[i]? with
  |none=>rw[ho] at h2;exact bN hd hlo fuel _ _ _ h2
  |some o=>
   rw[ho] at h2
   dsimp only at h2⊢
   by_cases hw:Region.wanted o (yielded ops a.tmps)=true
   ·rw[if_pos hw] at h2⊢
    rcases h2 with h2|h2
    ·exact eU (eV hd ho) (Oper.wp_mono (fun a w q=>bN hd hlo fuel _ a w q) h2)
    ·exact absurd h2.2 hlo
   ·rw[if_neg hw] at h2⊢
    exact⟨fun _ _=>trivial,bN hd hlo fuel _ _ _ h2⟩⟩
theorem bE {P:Program} {id:Nat} {ops:Array Oper} {Q:Exit→Act→World→Prop} {l n:Nat} {a:Act} {w:World} (S:World→Prop) (hm:P.follows .mixedOrders=true) (hd:cQ ops=true) (hlo: ¬LetsOut Q) (hS:S w.drew)
  (h:S w.drew→wpAnyH P .any ops Q S ops.size (Array.replicate ops.size false) a w.drew):(Code.region id ops true).wpIn (Fence.wide.inRound l) n P Q a w:=
 wpIn_region_any hm (bN hd hlo _ _ _ _ (wpAny_of_held _ _ _ _ (h hS)))
structure BC (W:World) (n0 pb:Nat) (i:Int) (k:Ke.K) (a:Int) (o:Bool) (ah:Int):Prop where
 b0:Boxed W n0 88 (.pointer (some ⟨pb,0,none⟩))
 b1:Boxed W (n0+1) 3 (.int .i64 i)
 b2:W.heap[n0+2]? =some (.cells #[.bool k.e,.int .u64 k.d,.int .u8 k.l] 130 (0,0))
 b3:Boxed W (n0+3) 3 (.int .i64 a)
 b4:Boxed W (n0+4) 4 (.bool o)
 b5:Boxed W (n0+5) 3 (.int .i64 ah)
abbrev GJ (W:World) (n0 pb:Nat) (H:List Hd) (b:Option Nat) (ah:Int):Prop:=BC W n0 pb (bI H b) (bK H b) (bA b) b.isSome ah
theorem wy (nn pb p d:Nat) (w:World):
  CallsIn Fence.wide nn Tryz.prog 135 #[.pointer (some ⟨pb,0,none⟩),.int .i64 (p:Int),.int .u64 (d:Int)] w fun e w'=>e= .returned (.func (.func 168) #[] #[.pointer (some ⟨w.heap.size+1,0,none⟩),.pointer (some ⟨w.heap.size,0,none⟩),.pointer (some ⟨w.heap.size+2,0,none⟩)])∧
   w'=((w.alloc (.cells #[.pointer (some ⟨pb,0,none⟩)] 88)).alloc (.cells #[.int .i64 (p:Int)] 3)).alloc (.cells #[.int .u64 (d:Int)] 39):=by
 refine callsIn_of_wp Tryz.func135 rfl trivial ?_ rfl
 simp only[Tryz.ntmps135,List.size_toArray,List.length_cons,List.length_nil,Nat.reduceAdd,Nat.reduceSub,Array.replicate_succ,Array.replicate_zero,List.push_toArray,List.append_toArray,List.nil_append,List.cons_append]
 gi_wp2
 go_ret
 exact⟨by simp,rfl⟩
def dx {np:Nat} (l:List (Pl np)):List Nat:=l.map (·.1)
theorem kq {np:Nat} (l:List (Pl np)) (x:Pl np):dx (l++[x])=dx l++[x.1]:=by unfold dx;rw[List.map_append];rfl
theorem fL {W W':World} {B:Nat} {cs:Array Value} {t:TypeId} {c:Nat×Nat} {row:Option Nat} (h:W.heap[B]? =some (.cells cs t c)) (hg:W.grownBy W' row) (hr: ∀r,row=some r→ ∃o:Obj,W.heap[r]? =some o∧o.isCells=false):W'.heap[B]? =some (.cells cs t c):=by
 rw[hg.block B (Array.getElem?_eq_some_iff.1 h).1 (fun e=> ?_)]
 ·exact h
 ·obtain⟨o,ho,hc⟩:=hr B e.symm
  rw[h] at ho
  cases ho
  cases hc
theorem BC.kept {W W':World} {n0 pb:Nat} {i:Int} {k:Ke.K} {a:Int} {o:Bool} {ah:Int} {row:Option Nat} (h:BC W n0 pb i k a o ah) (hg:W.grownBy W' row) (hr: ∀r,row=some r→ ∃o:Obj,W.heap[r]? =some o∧o.isCells=false):BC W' n0 pb i k a o ah:=
 ⟨fL h.b0 hg hr,fL h.b1 hg hr,fL h.b2 hg hr,fL h.b3 hg hr,fL h.b4 hg hr,fL h.b5 hg hr⟩
theorem BC.below {W W':World} {n0 pb:Nat} {i:Int} {k:Ke.K} {a:Int} {o:Bool} {ah:Int} (h:BC W n0 pb i k a o ah) (hb:Below W.heap.size W W'):BC W' n0 pb i k a o ah:=
 h.kept (row:=none) ⟨hb.os,hb.tape,hb.output,hb.size,fun k hk _=>hb.block k hk⟩ (fun r e=>by cases e)
theorem aB {W:World} {B:Nat} {o:Obj} (h:W.heap[B]? =some o):W.drew.heap[B]? =some o:=h
theorem BC.drew {W:World} {n0 pb:Nat} {i:Int} {k:Ke.K} {a:Int} {o:Bool} {ah:Int} (h:BC W n0 pb i k a o ah):BC W.drew n0 pb i k a o ah:=⟨h.b0,h.b1,h.b2,h.b3,h.b4,h.b5⟩
theorem BC.lt {W:World} {n0 pb:Nat} {i:Int} {k:Ke.K} {a:Int} {o:Bool} {ah:Int} (h:BC W n0 pb i k a o ah):n0+5<W.heap.size:=(Array.getElem?_eq_some_iff.1 h.b5).1
theorem ab {W:World} {B B' off:Nat} {v:Value} {x:Obj} (h:W.heap[B']? =some x) (hne:B'≠B):(W.setCell ⟨B,off,none⟩ v).heap[B']? =some x:=by
 rw[((Fr.refl (fun k=>k=B) W).setCell (a:=⟨B,off,none⟩) rfl v).block B' (Array.getElem?_eq_some_iff.1 h).1 hne]
 exact h
section
variable {W:World} {n0 pb:Nat} {i:Int} {k:Ke.K} {a:Int} {o:Bool} {ah:Int}
theorem BC.s1 (h:BC W n0 pb i k a o ah) (i':Int):BC (W.setCell ⟨n0+1,0,none⟩ (.int .i64 i')) n0 pb i' k a o ah:=
 ⟨ab h.b0 (by omega),Go.Joins.block_setCell h.b1 _,ab h.b2 (by omega),ab h.b3 (by omega),ab h.b4 (by omega),ab h.b5 (by omega)⟩
theorem BC.s2 (h:BC W n0 pb i k a o ah) (k':Ke.K):BC (((W.setCell ⟨n0+2,0,none⟩ (.bool k'.e)).setCell ⟨n0+2,1,none⟩ (.int .u64 k'.d)).setCell ⟨n0+2,2,none⟩ (.int .u8 k'.l)) n0 pb i k' a o ah:=
 ⟨ab (ab (ab h.b0 (by omega)) (by omega)) (by omega),ab (ab (ab h.b1 (by omega)) (by omega)) (by omega),Go.Joins.block_setCell (Go.Joins.block_setCell (Go.Joins.block_setCell h.b2 _) _) _,ab (ab (ab h.b3 (by omega)) (by omega)) (by omega),ab (ab (ab h.b4 (by omega)) (by omega)) (by omega),ab (ab (ab h.b5 (by omega)) (by omega)) (by omega)⟩
theorem BC.s3 (h:BC W n0 pb i k a o ah) (a':Int):BC (W.setCell ⟨n0+3,0,none⟩ (.int .i64 a')) n0 pb i k a' o ah:=
 ⟨ab h.b0 (by omega),ab h.b1 (by omega),ab h.b2 (by omega),Go.Joins.block_setCell h.b3 _,ab h.b4 (by omega),ab h.b5 (by omega)⟩
theorem BC.s4 (h:BC W n0 pb i k a o ah) (o':Bool):BC (W.setCell ⟨n0+4,0,none⟩ (.bool o')) n0 pb i k a o' ah:=
 ⟨ab h.b0 (by omega),ab h.b1 (by omega),ab h.b2 (by omega),ab h.b3 (by omega),Go.Joins.block_setCell h.b4 _,ab h.b5 (by omega)⟩
theorem BC.s5 (h:BC W n0 pb i k a o ah) (ah':Int):BC (W.setCell ⟨n0+5,0,none⟩ (.int .i64 ah')) n0 pb i k a o ah':=
 ⟨ab h.b0 (by omega),ab h.b1 (by omega),ab h.b2 (by omega),ab h.b3 (by omega),ab h.b4 (by omega),Go.Joins.block_setCell h.b5 _⟩
theorem an {B:Nat} {cs:Array Value} {t:TypeId} (h:W.heap[B]? =some (.cells cs t (0,0))) (j:Nat):W.cell? ⟨B,j,none⟩=cs[j]? ∧W.frozen? ⟨B,j,none⟩=false:=by
 unfold World.cell? World.frozen?
 simp only[h]
 exact⟨rfl,rfl⟩
theorem BC.cells (h:BC W n0 pb i k a o ah):W.cell? ⟨n0,0,none⟩=some (.pointer (some ⟨pb,0,none⟩))∧W.cell? ⟨n0+1,0,none⟩=some (.int .i64 i)∧(W.cell? ⟨n0+2,0,none⟩=some (.bool k.e)∧W.cell? ⟨n0+2,1,none⟩=some (.int .u64 k.d)∧W.cell? ⟨n0+2,2,none⟩=some (.int .u8 k.l))∧W.cell? ⟨n0+3,0,none⟩=some (.int .i64 a)∧W.cell? ⟨n0+4,0,none⟩=some (.bool o)∧W.cell? ⟨n0+5,0,none⟩=some (.int .i64 ah):=
 ⟨(an h.b0 0).1,(an h.b1 0).1,⟨(an h.b2 0).1,(an h.b2 1).1,(an h.b2 2).1⟩,(an h.b3 0).1,(an h.b4 0).1,(an h.b5 0).1⟩
theorem BC.free (h:BC W n0 pb i k a o ah):W.frozen? ⟨n0+1,0,none⟩=false∧(W.frozen? ⟨n0+2,0,none⟩=false∧W.frozen? ⟨n0+2,1,none⟩=false∧W.frozen? ⟨n0+2,2,none⟩=false)∧W.frozen? ⟨n0+3,0,none⟩=false∧W.frozen? ⟨n0+4,0,none⟩=false∧W.frozen? ⟨n0+5,0,none⟩=false:=
 ⟨(an h.b1 0).2,⟨(an h.b2 0).2,(an h.b2 1).2,(an h.b2 2).2⟩,(an h.b3 0).2,(an h.b4 0).2,(an h.b5 0).2⟩
end
def SB (n0 k:Nat):Prop:=(n0+1≤k∧k≤n0+5)∨n0+9≤k
theorem eF (nn:Nat) (hn:1≤nn) (B1 B2 B3 pb np p d:Nat) (a:Option Addr) (cap:Nat) (hp:p<np) (hnp:np≤64) (hd:d<18446744073709551616) (S:Nat→Prop) (hS: ¬S B1∧ ¬S B2∧ ¬S B3∧ ¬S pb) (w:World) (hR:CP w B1 B2 B3 pb np p d a cap):
  SeqStopsK Fence.wide nn Tryz.prog 168 #[.pointer (some ⟨B1,0,none⟩),.pointer (some ⟨B2,0,none⟩),.pointer (some ⟨B3,0,none⟩)] (fun x:Pl np=> #[Value.int .i64 (x.1:Int)]) (Fr S) (fun ys=>dx ys=di np p d) (fun pre=>dx pre<+:di np p d) (np+2) w:=by
 intro l J Jx W hW hJ hJx hY h0
 refine iu nn hn l B1 B2 B3 pb np p d a cap hp hnp hd S hS J Jx hY (fun pre W q hj=>hJ pre W (W.drewN q) none hj ⟨rfl,rfl,rfl,Nat.le_refl _,fun _ _ _=>rfl⟩ (fun r e=>by cases e)) W ?_ h0
 exact hR.fr (S:=fun _=>False) ⟨id,id,id,id⟩ (Fr.aC hW)
theorem mZ {S:Nat→Prop} {w:World} {B:Nat} (hS: ∀k,B≤k→S k) (hB:B≤w.heap.size) (W:World) (l:Nat) (o o':Obj) (hl:w.heap.size≤l) (ho:W.heap[l]? =some o) (hc:o.isCells=false) (hw:o.isWalk=false):Fr S W (W.putObj l o'):=
 ⟨rfl,rfl,rfl,by simp,fun k _ hk=>World.putObj_heap_other (fun e=>hk (hS k (by omega)))⟩
theorem po {W W':World} (h:Below W.heap.size W W'):KeepsOthers W W':=⟨h.size,fun k o hk _=>(h.block k (Array.getElem?_eq_some_iff.1 hk).1).trans hk⟩
theorem pA (W:World) (o:Obj) (k:Nat) (hk:W.heap.size=k):(W.alloc o).heap[k]? =some o:=by subst hk;exact World.alloc_heap_new W o
theorem oP {W:World} (o:Obj) {k:Nat} {x:Obj} (h:W.heap[k]? =some x):(W.alloc o).heap[k]? =some x:=(Below.heap_alloc _ _ _ (Array.getElem?_eq_some_iff.1 h).1).trans h
theorem rB {H:List Hd} (h: ∀x,(MM H x).length≤1024): ∀l:List Nat,dD H l≤l.length*1024
 |[]=>by simp[dD]
 |x::l=>by
  have h1:=h x
  have:=rB h l
  simp only[dD,List.map_cons,List.sum_cons,List.length_cons,Nat.add_mul,Nat.one_mul] at this⊢
  omega
theorem fR.mm {w:World} {base lo pb mb n np q:Nat} {v:Value} {H:List Hd} (h:fR w base lo pb mb n np q v H) (x:Nat):(MM H x).length≤1024:=by
 unfold MM
 cases hx:H[x]? with
 |none=>simp
 |some y=>
  have h1:=(h.sets.it x y hx).fit
  have h2:=h.n1
  have:jV np n q x≤n:=by unfold jV;split<;>omega
  show y.M.length≤1024
  omega
structure RW (n0:Nat) (W W':World):Prop where
 fr:Fr (SB n0) W W'
 ko:KeepsOthers W W'
 be:Below n0 W W'
 hz:n0+9≤W'.heap.size
section
variable {n0:Nat} {W W' W'':World}
theorem RW.refl (h:n0+9≤W.heap.size):RW n0 W W:=⟨Fr.refl _ _,KeepsOthers.refl _,Below.refl _ _,h⟩
theorem RW.below (h:RW n0 W W') (hb:Below W'.heap.size W' W''):RW n0 W W'':=
 ⟨h.fr.trans (Fr.aC hb),h.ko.trans (po hb),h.be.trans (hb.mono (by have:=h.hz;omega)),Nat.le_trans h.hz hb.size⟩
theorem RW.set (h:RW n0 W W') {B off:Nat} (h1:n0+1≤B) (h2:B≤n0+5) (v:Value):RW n0 W (W'.setCell ⟨B,off,none⟩ v):=
 ⟨h.fr.setCell (a:=⟨B,off,none⟩) (.inl ⟨h1,h2⟩) v,h.ko.trans (KeepsOthers.setCell _ _ _),h.be.setCell (p:=⟨B,off,none⟩) (by show n0≤B;omega) v,Nat.le_trans h.hz ((Fr.refl (fun k=>k=B) W').setCell (a:=⟨B,off,none⟩) rfl v).size⟩
theorem RW.drew (h:RW n0 W W'):RW n0 W W'.drew:=⟨⟨h.fr.os,h.fr.tape,h.fr.output,h.fr.size,h.fr.block⟩,⟨h.ko.size,h.ko.same⟩,⟨h.be.os,h.be.tape,h.be.output,h.be.size,h.be.block⟩,h.hz⟩
end
section
variable {w w' wa wb:World} {base lo pb mb n np q T g cap:Nat} {v:Value} {H:List Hd}
theorem xF (h:fR w base lo pb mb n np q (.slice (some ⟨g,0,none⟩) (np+1) cap) H) (p d:Nat) (hp:p<np) (hd:d<18446744073709551616):
  CallsIn Fence.wide 6 Tryz.prog 100 #[.pointer (some ⟨pb,0,none⟩),.int .i64 (p:Int),.int .u64 (d:Int)] w fun e w'=>e= .returned (.tuple #[.int .i64 (bI H (iA H (di np p d))),.agg #[.bool (bK H (iA H (di np p d))).e,.int .u64 (bK H (iA H (di np p d))).d,.int .u8 (bK H (iA H (di np p d))).l],.int .i64 (bA (iA H (di np p d))),.bool (iA H (di np p d)).isSome])∧Below w.heap.size w w':=by
 have HP:Hid (∀W,Below w.heap.size w W→fR W base lo pb mb n np q (.slice (some ⟨g,0,none⟩) (np+1) cap) H):=fun W hW=>h.below hW
 have HHAS:=aa (fun W hW=>(callsIn_wide (n:=5)).2 (ue (HP.out W hW) p hp))
 have HLEN:=aa (fun W hW=>(callsIn_wide (n:=5)).2 (BK (HP.out W hW)))
 have hnp:=h.np1
 have hlen:=h.len
 have hpl:=h.Dx
 have hsum:=h.sA
 refine callsIn_of_wp_marks Tryz.func100 rfl trivial ?_ rfl
 simp only[Tryz.ntmps100,List.size_toArray,List.length_cons,List.length_nil,Nat.reduceAdd,Nat.reduceSub,Array.replicate_succ,Array.replicate_zero,List.push_toArray,List.append_toArray,List.nil_append,List.cons_append]
 have hB5:Below w.heap.size w (((((w.alloc (.cells #[.pointer (some ⟨pb,0,none⟩)] 88)).alloc (.cells #[.int .i64 0] 3)).alloc (.cells #[.bool false,.int .u64 0,.int .u8 0] 130)).alloc (.cells #[.int .i64 0] 3)).alloc (.cells #[.bool false] 4)):=(((((Below.refl _ w).alloc (Nat.le_refl _) _).alloc (by simp) _).alloc (by simp;omega) _).alloc (by simp;omega) _).alloc (by simp;omega) _
 have HB5:=aa hB5
 have HB9:=aa ((((hB5.alloc (by simp;omega) (.cells #[.int .i64 (cS H:Int)] 3)).alloc (by simp;omega) (.cells #[.pointer (some ⟨pb,0,none⟩)] 88)).alloc (by simp;omega) (.cells #[.int .i64 (p:Int)] 3)).alloc (by simp;omega) (.cells #[.int .u64 (d:Int)] 39))
 clear hB5 h
 gi_wp2
 refine wpIn_wide.2 (wp_scope_straight ((wpIn_wide (n:=6)).1 ?_))
 gi_wp2_with (first
  |(refine⟨trivial,?_⟩;gi_at_call 133;refine(HHAS.out _ HB5.out).mono ?_;rintro e w1 ⟨rfl,hw1⟩;replace hw1:=hw1.symm;subst hw1)
  |(refine⟨trivial,?_⟩;gi_at_call 134;refine(HLEN.out _ HB5.out).mono ?_;rintro e w2 ⟨rfl,hw2⟩;replace hw2:=hw2.symm;subst hw2))
 refine wpIn_wide.2 (wp_label ?_)
 gi_wp2_with (refine⟨trivial,?_⟩;gi_at_call 135;refine(wy _ pb p d _).mono ?_;rintro e w3 ⟨rfl,hw3⟩;subst hw3)
 simp only[Nat.add_assoc,Nat.reduceAdd]
 obtain⟨W0,hW0⟩: ∃W0,(((((((((w.alloc (.cells #[.pointer (some ⟨pb,0,none⟩)] 88)).alloc (.cells #[.int .i64 0] 3)).alloc (.cells #[.bool false,.int .u64 0,.int .u8 0] 130)).alloc (.cells #[.int .i64 0] 3)).alloc (.cells #[.bool false] 4)).alloc (.cells #[.int .i64 (cS H:Int)] 3)).alloc (.cells #[.pointer (some ⟨pb,0,none⟩)] 88)).alloc (.cells #[.int .i64 (p:Int)] 3)).alloc (.cells #[.int .u64 (d:Int)] 39))=W0:=⟨_,rfl⟩
 rw[hW0] at HB9⊢
 have hz:W0.heap.size=w.heap.size+9:=by rw[←hW0];simp
 have hst:GJ W0 w.heap.size pb H none (cS H:Int):=by
  rw[←hW0]
  refine⟨?_,?_,?_,?_,?_,?_⟩<;>(try unfold Boxed)<;>(repeat(first|(refine pA _ _ _ ?_;simp;done)|refine oP _ ?_))
 have x6:Boxed W0 (w.heap.size+6) 88 (.pointer (some ⟨pb,0,none⟩)):=by
  rw[←hW0];unfold Boxed
  repeat(first|(refine pA _ _ _ ?_;simp;done)|refine oP _ ?_)
 have x7:Boxed W0 (w.heap.size+7) 3 (.int .i64 (p:Int)):=by
  rw[←hW0];unfold Boxed
  repeat(first|(refine pA _ _ _ ?_;simp;done)|refine oP _ ?_)
 have x8:Boxed W0 (w.heap.size+8) 39 (.int .u64 (d:Int)):=by
  rw[←hW0];unfold Boxed
  repeat(first|(refine pA _ _ _ ?_;simp;done)|refine oP _ ?_)
 have hrd:CP W0 (w.heap.size+7) (w.heap.size+6) (w.heap.size+8) pb np p d (some ⟨g,0,none⟩) cap:=⟨by omega,by omega,by omega,by omega,x7.cell,x6.cell,x8.cell,(HP.out _ HB9.out).c0⟩
 have hS: ¬SB w.heap.size (w.heap.size+7)∧ ¬SB w.heap.size (w.heap.size+6)∧ ¬SB w.heap.size (w.heap.size+8)∧ ¬SB w.heap.size pb:=by
  unfold SB;omega
 clear hW0
 refine wpIn_rangeFunc_ownF rfl (by decide) (gf:=168) (lb:= #[.pointer (some ⟨w.heap.size+7,0,none⟩),.pointer (some ⟨w.heap.size+6,0,none⟩),.pointer (some ⟨w.heap.size+8,0,none⟩)]) rfl trivial (enters_of Tryz.func168 (by kernel_rfl) rfl)
  (eF 5 (by decide) (w.heap.size+7) (w.heap.size+6) (w.heap.size+8) pb np p d (some ⟨g,0,none⟩) cap hp hnp.2 hd (SB w.heap.size) hS W0 hrd) (fun a b=>a.trans b) (mZ (B:=w.heap.size+9) (fun k hk=> .inr hk) (by omega)) (Below.refl _ _) (fun _=>rfl)
  (fun (pre:List (Pl np)) (W:World)=>(GJ W w.heap.size pb H (iA H (dx pre)) (pa H (dx pre))∧W0.heap.size≤W.heap.size)∧Below w.heap.size w W)
  (fun (c:Code) (pre:List (Pl np)) (W:World)=>c= .exit 0∧(∃(pre':List (Pl np)) (x:Pl np),pre=pre'++[x]∧pa H (dx pre')=0∧GJ W w.heap.size pb H (iA H (dx pre')) 0∧W0.heap.size≤W.heap.size)∧Below w.heap.size w W)
  (fun s W W' row hs hg hr=>⟨⟨BC.kept hs.1.1 hg (fun r e=>(hr r e).2),Nat.le_trans hs.1.2 hg.size⟩,hs.2.grown hg hs.2.size (fun k e=>by have:=(hr k e).1;omega)⟩)
  (fun c s W W' row hs hg hr=>⟨hs.1,hs.2.1.imp (fun pre'=>Exists.imp (fun x q=>⟨q.1,q.2.1,BC.kept q.2.2.1 hg (fun r e=>(hr r e).2),Nat.le_trans q.2.2.2 hg.size⟩)),hs.2.2.grown hg hs.2.2.size (fun k e=>by have:=(hr k e).1;omega)⟩)
  ⟨by have e1:iA H (dx ([]:List (Pl np)))=none:=rfl;have e2:pa H (dx ([]:List (Pl np)))=(cS H:Int):=(by simp[pa,dD,dx]);rw[e1,e2];exact⟨hst,Nat.le_refl _⟩,HB9.out⟩
  (fun x=>{tmps:= #[.pointer (some ⟨pb,0,none⟩),.int .i64 (p:Int),.int .u64 (d:Int),.pointer (some ⟨w.heap.size,0,none⟩),undef,undef,.pointer (some ⟨w.heap.size+1,0,none⟩),.pointer (some ⟨w.heap.size+2,0,none⟩),.pointer (some ⟨w.heap.size+3,0,none⟩),.pointer (some ⟨w.heap.size+4,0,none⟩),.pointer (some ⟨w.heap.size+5,0,none⟩),.int .i64 (x.1:Int),undef,undef,undef,.pointer (some ⟨pb,0,none⟩),.int .i64 (p:Int),.bool true,.bool false,undef,.pointer (some ⟨pb,0,none⟩),.int .i64 (cS H:Int),.pointer (some ⟨pb,0,none⟩),.int .i64 (p:Int),.int .u64 (d:Int),.func (.func 168) #[] #[.pointer (some ⟨w.heap.size+7,0,none⟩),.pointer (some ⟨w.heap.size+6,0,none⟩),.pointer (some ⟨w.heap.size+8,0,none⟩)],.int .i64 (x.1:Int),undef,undef,undef,undef,undef,undef,undef,undef,undef,undef,undef,undef,undef,undef,undef,undef,undef,undef,undef,undef,undef,undef,undef,undef,undef,undef,undef,undef,undef,undef,undef,undef,undef,undef,undef,undef,undef,undef,undef,undef,undef,undef,undef],defers:=[]}) ?assign ?body ?done ?stop
 case assign=>
  intro l x W K hK
  gi_wp2
  exact hK
 case body=>
  rintro l pre ⟨x,hx⟩ W ⟨⟨hB,hWz⟩,hbel⟩ hlt
  have hxl:x<H.length:=by omega
  obtain⟨y,hy⟩: ∃y,H[x]? =some y:=⟨H[x],List.getElem?_eq_getElem hxl⟩
  have hM:=cm hy
  have HBS:=aa (show iA H (dx (pre++[(⟨x,hx⟩:Pl np)]))=cF H (iA H (dx pre)) x by rw[kq,rn])
  have HAS:=aa (show pa H (dx (pre++[(⟨x,hx⟩:Pl np)]))=pa H (dx pre)-(y.M.length:Int) by rw[kq,zB,hM])
  dsimp only
  have hlen2:(dx pre).length≤65:=by unfold dx;rw[List.length_map];omega
  obtain⟨c0,_,_,c3,_⟩:=(HP.out _ hbel).view
  have c4:=c3 x y hy
  have HZ:Hid (w.heap.size+9≤W.heap.size):=by unfold Hid;rw[←hz];exact hWz
  have a0:=hB.b0.cell
  have HTOP:=aa (yF ((HP.out _ hbel).sets.it x y hy))
  have HB:=aa hB
  have HBEL:=aa hbel
  have HY:=aa hy
  have hyl:y.M.length≤1024:=by rw[←hM];exact(HP.out _ hbel).mm x
  have ha1: -70000≤pa H (dx pre)∧pa H (dx pre)≤70000:=by
   have h1:=rB (HP.out _ hbel).mm (dx pre)
   have h2:(dx pre).length*1024≤65*1024:=Nat.mul_le_mul_right _ hlen2
   unfold pa
   omega
  clear hB hbel c3 hy hM hxl hst hrd hS x6 x7 x8
  have hah:Hid (pa H (dx pre)=pa H (dx pre)):=rfl
  generalize hbb:iA H (dx pre)=b at*
  have b1:(x:Int)<(np:Int)+1:=by omega
  have b2:(x:Int)<((np+1:Nat):Int):=by omega
  have b3:x<np+1:=by omega
  have b4: ¬(x:Int)<0:=by omega
  by_cases h0:pa H (dx pre)=0
  ·have HA0:=aa h0
   rw[h0] at HB
   clear h0
   gi_wp2_with (refine⟨trivial,?_⟩;gi_at_call 136;refine(CallsIn.inRound l (callsIn_wide.2 HTOP.out)).mono ?_;rintro e w1 ⟨rfl,hb1⟩;have HB1:=aa (BC.below HB.out hb1);have HBW:=aa hb1;have a5:=HB1.out.b5.cell;have z1:=BC.lt HB1.out;clear hb1)
   have HRW:=aa (((RW.refl HZ.out).below HBW.out).below ((Below.refl _ w1).alloc (Nat.le_refl _) (.cells #[.bool (gF y.M).e,.int .u64 (gF y.M).d,.int .u8 (gF y.M).l] 130)))
   refine⟨HRW.out.ko,rfl,⟨pre,_,rfl,HA0.out,?_,by have:=HRW.out.hz;omega⟩,HBEL.out.trans HRW.out.be⟩
   rw[hbb]
   exact BC.below HB1.out ((Below.refl _ w1).alloc (Nat.le_refl _) _)
  ·have HNE:=aa h0
   obtain⟨ha1,ha2⟩:=ha1
   generalize pa H (dx pre)=ah at*
   obtain⟨ln,hln⟩: ∃ln,y.M.length=ln:=⟨_,rfl⟩
   rw[hln] at HAS hyl
   have HLN:Hid (∀V,Below w.heap.size w V→Calls Tryz.prog 137 #[.pointer (some ⟨y.sb,0,none⟩)] V fun e w'=>e= .returned (.int .i64 (ln:Int))∧Below V.heap.size V w'):=fun V hV=>by
    rw[←hln]
    exact CH ((HP.out V hV).sets.it x y HY.out)
   have HMX:=aa (cm HY.out)
   have ew:IntKind.i64.wrap (ah-(ln:Int))=ah-(ln:Int):=by simp[IntKind.wrap,IntKind.bits,IntKind.signed];omega
   clear hln
   cases hM:y.M with
   |nil=>
    rw[hM] at HTOP HMX
    simp only[rL,gF,Gy] at HTOP
    have HB2:Hid (cF H b x=b):=by unfold Hid cF;rw[HMX.out]
    clear hM
    gi_wp2_with (refine⟨trivial,?_⟩;gi_at_call 136;refine(CallsIn.inRound l (callsIn_wide.2 HTOP.out)).mono ?_;rintro e w1 ⟨rfl,hb1⟩;have HB1:=aa (BC.below HB.out hb1);have HBW:=aa hb1;obtain⟨a10,a11,⟨a12,a13,a14⟩,a15,a16,a17⟩:=BC.cells HB1.out;have z1:=BC.lt HB1.out;have z2:w.heap.size<w1.heap.size:=(by omega);have z3:w.heap.size+1<w1.heap.size:=(by omega);have z4:w.heap.size+2<w1.heap.size:=(by omega);have z5:w.heap.size+3<w1.heap.size:=(by omega);have z6:w.heap.size+4<w1.heap.size:=(by omega);clear hb1)
    all_goals first
     |(rename_i q1 q2;exact absurd q1 (by simp[undef]))
     |skip
    refine⟨trivial,?_⟩
    gi_wp2
    have HBC:=aa (BC.below HB1.out ((Below.refl _ w1).alloc (Nat.le_refl _) (.cells #[.bool false,.int .u64 0,.int .u8 0] 130)))
    have HRW:=aa (((RW.refl HZ.out).below HBW.out).below ((Below.refl _ w1).alloc (Nat.le_refl _) (.cells #[.bool false,.int .u64 0,.int .u8 0] 130)))
    generalize (w1.alloc (.cells #[.bool false,.int .u64 0,.int .u8 0] 130))=Wc at*
    have HBELc:=aa (HBEL.out.trans HRW.out.be)
    obtain⟨d0,_,_,d3,_⟩:=(HP.out _ HBELc.out).view
    have d4:=d3 x y HY.out
    clear d3
    obtain⟨e0,_,_,_,_,e5⟩:=BC.cells HBC.out
    refine bE (fun w'=>w'.cell? ⟨w.heap.size,0,none⟩=some (.pointer (some ⟨pb,0,none⟩))∧w'.cell? ⟨pb,0,none⟩=some (.slice (some ⟨g,0,none⟩) (np+1) cap)∧w'.cell? ⟨g,x,none⟩=some (.pointer (some ⟨y.sb,0,none⟩))) (by kernel_rfl) (by kernel_rfl) (by rintro⟨a,w,h⟩;exact(show False from h)) ⟨e0,d0,d4⟩ (fun hHeld=> ?_)
    refine aE 1 (v:= ?_) rfl ?v1 ?_
    case v1=>(intro w hSw;(try dsimp only at hSw);go_simp;try with_reducible rfl)
    try simp only[ao]
    refine aE 2 (v:= ?_) rfl ?v2 ?_
    case v2=>(intro w hSw;(try dsimp only at hSw);go_simp;try with_reducible rfl)
    try simp only[ao]
    refine aE 3 (v:= ?_) rfl ?v3 ?_
    case v3=>(intro w hSw;(try dsimp only at hSw);go_simp;try with_reducible rfl)
    try simp only[ao]
    refine aE 4 (v:= ?_) rfl ?v4 ?_
    case v4=>(intro w hSw;(try dsimp only at hSw);go_simp;try with_reducible rfl)
    try simp only[ao]
    refine aE 5 (v:= ?_) rfl ?v5 ?_
    case v5=>(intro w hSw;(try dsimp only at hSw);go_simp;try with_reducible rfl)
    try simp only[ao]
    refine aE 6 (v:= ?_) rfl ?v6 ?_
    case v6=>(intro w hSw;(try dsimp only at hSw);go_simp;try with_reducible rfl)
    try simp only[ao]
    refine aE 7 (v:= ?_) rfl ?v7 ?_
    case v7=>(intro w hSw;(try dsimp only at hSw);go_simp;try with_reducible rfl)
    try simp only[ao]
    refine wpAnyH_ready (rs:=[0,8]) (by kernel_rfl) (by simp) ?_
    refine AllReadyH.cons rfl (fun K hK=> ?_) (AllReadyH.cons rfl (fun K hK=> ?_) AllReadyH.nil)
    ·skip
     go_simp
     refine hK.out _ _ ?_ (fun hHeld=> ?_)
     ·exact hHeld
     clear hK K
     try simp only[ao]
     refine aZ 8 rfl (fun K hK=> ?_)
     go_simp
     go_at_call 137
     refine(HLN.out _ (by exact ak HBELc.out rfl rfl rfl rfl)).mono ?_
     rintro e w5 ⟨rfl,hb5⟩
     have HBW5:=aa (show Below Wc.heap.size Wc w5 from bQ hb5 rfl rfl rfl rfl)
     have HBC5:=aa (BC.below HBC.out HBW5.out)
     have HRW5:=aa (HRW.out.below HBW5.out)
     have HV5:=aa (HP.out _ (HBEL.out.trans HRW5.out.be)).view
     obtain⟨e50,_,_,_,_,e55⟩:=BC.cells HBC5.out
     obtain⟨_,_,_,_,f55⟩:=BC.free HBC5.out
     clear hb5
     refine hK.out _ _ ?_ (fun hHeld=> ?_)
     ·exact⟨e50,HV5.out.1,HV5.out.2.2.2.1 x y HY.out⟩
     clear hK K
     try simp only[ao]
     refine aE 9 (v:= ?_) rfl ?v9 ?_
     case v9=>(intro w hSw;(try dsimp only at hSw);go_simp;try with_reducible rfl)
     try simp only[ao]
     refine aZ 10 rfl (fun K hK=> ?_)
     go_simp
     have HBC6:=aa (BC.s5 HBC5.out (ah-(ln:Int)))
     have HRW6:=aa (HRW5.out.set (B:=w.heap.size+5) (off:=0) (by omega) (by omega) (.int .i64 (ah-(ln:Int))))
     have HV6:=aa (HP.out _ (HBEL.out.trans HRW6.out.be)).view
     refine hK.out _ _ ?_ (fun hHeld=> ?_)
     ·exact⟨(BC.cells HBC6.out).1,HV6.out.1,HV6.out.2.2.2.1 x y HY.out⟩
     clear hK K
     try simp only[ao]
     refine wpAnyH_done (by kernel_rfl) ?_ _
     gi_wp2
     refine⟨HRW6.out.ko,HRW6.out.fr,⟨?_,by have:=HRW6.out.hz;omega⟩,HBEL.out.trans HRW6.out.be⟩
     rw[HBS.out,HAS.out,HB2.out]
     exact HBC6.out
    ·skip
     go_simp
     go_at_call 137
     refine(HLN.out _ (by exact ak HBELc.out rfl rfl rfl rfl)).mono ?_
     rintro e w5 ⟨rfl,hb5⟩
     have HBW5:=aa (show Below Wc.heap.size Wc w5 from bQ hb5 rfl rfl rfl rfl)
     have HBC5:=aa (BC.below HBC.out HBW5.out)
     have HRW5:=aa (HRW.out.below HBW5.out)
     have HV5:=aa (HP.out _ (HBEL.out.trans HRW5.out.be)).view
     obtain⟨e50,_,_,_,_,e55⟩:=BC.cells HBC5.out
     obtain⟨_,_,_,_,f55⟩:=BC.free HBC5.out
     clear hb5
     refine hK.out _ _ ?_ (fun hHeld=> ?_)
     ·exact⟨e50,HV5.out.1,HV5.out.2.2.2.1 x y HY.out⟩
     clear hK K
     try simp only[ao]
     refine aZ 0 rfl (fun K hK=> ?_)
     go_simp
     refine hK.out _ _ ?_ (fun hHeld=> ?_)
     ·exact hHeld
     clear hK K
     try simp only[ao]
     refine aE 9 (v:= ?_) rfl ?v9 ?_
     case v9=>(intro w hSw;(try dsimp only at hSw);go_simp;try with_reducible rfl)
     try simp only[ao]
     refine aZ 10 rfl (fun K hK=> ?_)
     go_simp
     have HBC6:=aa (BC.s5 HBC5.out (ah-(ln:Int)))
     have HRW6:=aa (HRW5.out.set (B:=w.heap.size+5) (off:=0) (by omega) (by omega) (.int .i64 (ah-(ln:Int))))
     have HV6:=aa (HP.out _ (HBEL.out.trans HRW6.out.be)).view
     refine hK.out _ _ ?_ (fun hHeld=> ?_)
     ·exact⟨(BC.cells HBC6.out).1,HV6.out.1,HV6.out.2.2.2.1 x y HY.out⟩
     clear hK K
     try simp only[ao]
     refine wpAnyH_done (by kernel_rfl) ?_ _
     gi_wp2
     refine⟨HRW6.out.ko,HRW6.out.fr,⟨?_,by have:=HRW6.out.hz;omega⟩,HBEL.out.trans HRW6.out.be⟩
     rw[HBS.out,HAS.out,HB2.out]
     exact HBC6.out
   |cons z M'=>
    rw[hM] at HTOP HMX
    simp only[rL,gF,Gy] at HTOP
    clear hM
    cases b with
    |none=>
     replace HB:Hid (BC W w.heap.size pb 0 ⟨false,0,0⟩ 0 false ah):=HB
     have HB2:Hid (cF H none x=some x):=by unfold Hid cF;rw[HMX.out]
     have HXI:Hid (rL (MM H x)=(z.1:Int)∧gF (MM H x)=z.2):=by unfold Hid;rw[HMX.out];exact⟨rfl,rfl⟩
     gi_wp2_with (refine⟨trivial,?_⟩;gi_at_call 136;refine(CallsIn.inRound l (callsIn_wide.2 HTOP.out)).mono ?_;rintro e w1 ⟨rfl,hb1⟩;have HB1:=aa (BC.below HB.out hb1);have HBW:=aa hb1;obtain⟨a10,a11,⟨a12,a13,a14⟩,a15,a16,a17⟩:=BC.cells HB1.out;have z1:=BC.lt HB1.out;have z2:w.heap.size<w1.heap.size:=(by omega);have z3:w.heap.size+1<w1.heap.size:=(by omega);have z4:w.heap.size+2<w1.heap.size:=(by omega);have z5:w.heap.size+3<w1.heap.size:=(by omega);have z6:w.heap.size+4<w1.heap.size:=(by omega);clear hb1)
     refine⟨trivial,?_⟩
     gi_wp2
     have HCw:=aa (BC.below HB1.out ((Below.refl _ w1).alloc (Nat.le_refl _) (.cells #[.bool z.2.e,.int .u64 z.2.d,.int .u8 z.2.l] 130)))
     have HRw:=aa (((RW.refl HZ.out).below HBW.out).below ((Below.refl _ w1).alloc (Nat.le_refl _) (.cells #[.bool z.2.e,.int .u64 z.2.d,.int .u8 z.2.l] 130)))
     have HKw:=aa (show(w1.alloc (.cells #[.bool z.2.e,.int .u64 z.2.d,.int .u8 z.2.l] 130)).heap[w1.heap.size]? =some (.cells #[.bool z.2.e,.int .u64 z.2.d,.int .u8 z.2.l] 130) from World.alloc_heap_new w1 _)
     generalize (w1.alloc (.cells #[.bool z.2.e,.int .u64 z.2.d,.int .u8 z.2.l] 130))=Wd at*
     obtain⟨_,g1,⟨g2,g3,g4⟩,g5,g6,_⟩:=BC.cells HCw.out
     obtain⟨q1,⟨q2,q3,q4⟩,q5,q6,_⟩:=BC.free HCw.out
     have hkb:w.heap.size+9≤w1.heap.size:=Nat.le_trans HZ.out HBW.out.size
     refine bE (fun w'=>w'.cell? ⟨w1.heap.size,0,none⟩=some (.bool z.2.e)∧w'.cell? ⟨w1.heap.size,1,none⟩=some (.int .u64 z.2.d)∧w'.cell? ⟨w1.heap.size,2,none⟩=some (.int .u8 z.2.l)) (by kernel_rfl) (by kernel_rfl) (by rintro⟨a,w,h⟩;exact(show False from h)) ⟨(an (aB HKw.out) 0).1,(an (aB HKw.out) 1).1,(an (aB HKw.out) 2).1⟩ (fun hHeld=> ?_)
     refine aE 0 (v:= ?_) rfl ?v0 ?_
     case v0=>(intro w hSw;(try dsimp only at hSw);go_simp;try with_reducible rfl)
     try simp only[ao]
     refine aE 1 (v:= ?_) rfl ?v1 ?_
     case v1=>(intro w hSw;(try dsimp only at hSw);go_simp;try with_reducible rfl)
     try simp only[ao]
     refine aE 2 (v:= ?_) rfl ?v2 ?_
     case v2=>(intro w hSw;(try dsimp only at hSw);go_simp;try with_reducible rfl)
     try simp only[ao]
     refine aZ 3 rfl (fun K hK=> ?_)
     go_simp
     have HC3:=aa (BC.s1 HCw.out (z.1:Int))
     have HR3:=aa (HRw.out.set (B:=w.heap.size+1) (off:=0) (by omega) (by omega) (.int .i64 (z.1:Int)))
     have HK3:=aa (ab (B:=w.heap.size+1) (off:=0) (v:= .int .i64 (z.1:Int)) HKw.out (by omega))
     refine hK.out _ _ ?_ (fun hHeld=> ?_)
     ·exact⟨(an (aB HK3.out) 0).1,(an (aB HK3.out) 1).1,(an (aB HK3.out) 2).1⟩
     clear hK K
     try simp only[ao]
     refine aZ 4 rfl (fun K hK=> ?_)
     go_simp
     have HC4:=aa (BC.s2 HC3.out z.2)
     have HR4:=aa (((HR3.out.set (B:=w.heap.size+2) (off:=0) (by omega) (by omega) (.bool z.2.e)).set (B:=w.heap.size+2) (off:=1) (by omega) (by omega) (.int .u64 z.2.d)).set (B:=w.heap.size+2) (off:=2) (by omega) (by omega) (.int .u8 z.2.l))
     have HK4:=aa (ab (B:=w.heap.size+2) (off:=2) (v:= .int .u8 z.2.l) (ab (B:=w.heap.size+2) (off:=1) (v:= .int .u64 z.2.d) (ab (B:=w.heap.size+2) (off:=0) (v:= .bool z.2.e) HK3.out (by omega)) (by omega)) (by omega))
     refine hK.out _ _ ?_ (fun hHeld=> ?_)
     ·exact⟨(an (aB HK4.out) 0).1,(an (aB HK4.out) 1).1,(an (aB HK4.out) 2).1⟩
     clear hK K
     try simp only[ao]
     refine aZ 5 rfl (fun K hK=> ?_)
     go_simp
     have HC5:=aa (BC.s3 HC4.out (x:Int))
     have HR5:=aa (HR4.out.set (B:=w.heap.size+3) (off:=0) (by omega) (by omega) (.int .i64 (x:Int)))
     have HK5:=aa (ab (B:=w.heap.size+3) (off:=0) (v:= .int .i64 (x:Int)) HK4.out (by omega))
     refine hK.out _ _ ?_ (fun hHeld=> ?_)
     ·exact⟨(an (aB HK5.out) 0).1,(an (aB HK5.out) 1).1,(an (aB HK5.out) 2).1⟩
     clear hK K
     try simp only[ao]
     refine aZ 6 rfl (fun K hK=> ?_)
     go_simp
     have HC6:=aa (BC.s4 HC5.out true)
     have HR6:=aa (HR5.out.set (B:=w.heap.size+4) (off:=0) (by omega) (by omega) (.bool true))
     have HK6:=aa (ab (B:=w.heap.size+4) (off:=0) (v:= .bool true) HK5.out (by omega))
     refine hK.out _ _ ?_ (fun hHeld=> ?_)
     ·exact⟨(an (aB HK6.out) 0).1,(an (aB HK6.out) 1).1,(an (aB HK6.out) 2).1⟩
     clear hK K
     try simp only[ao]
     refine wpAnyH_done (by kernel_rfl) ?_ _
     skip
     have HBC:=aa (BC.drew HC6.out)
     have HRW:=aa HR6.out.drew
     clear g1 g2 g3 g4 g5 g6 q1 q2 q3 q4 q5 q6 HCw
     clear HC3 HC4 HC5 HC6 HR3 HR4 HR5 HR6 HK3 HK4 HK5 HK6 HRw HKw hHeld
     generalize ((((((Wd.setCell ⟨w.heap.size+1,0,none⟩ (.int .i64 (z.1:Int))).setCell ⟨w.heap.size+2,0,none⟩ (.bool z.2.e)).setCell ⟨w.heap.size+2,1,none⟩ (.int .u64 z.2.d)).setCell ⟨w.heap.size+2,2,none⟩ (.int .u8 z.2.l)).setCell ⟨w.heap.size+3,0,none⟩ (.int .i64 (x:Int))).setCell ⟨w.heap.size+4,0,none⟩ (.bool true)).drew=Wc at*
     gi_wp2
     have HBELc:=aa (HBEL.out.trans HRW.out.be)
     obtain⟨d0,_,_,d3,_⟩:=(HP.out _ HBELc.out).view
     have d4:=d3 x y HY.out
     clear d3
     obtain⟨e0,_,_,_,_,e5⟩:=BC.cells HBC.out
     refine bE (fun w'=>w'.cell? ⟨w.heap.size,0,none⟩=some (.pointer (some ⟨pb,0,none⟩))∧w'.cell? ⟨pb,0,none⟩=some (.slice (some ⟨g,0,none⟩) (np+1) cap)∧w'.cell? ⟨g,x,none⟩=some (.pointer (some ⟨y.sb,0,none⟩))) (by kernel_rfl) (by kernel_rfl) (by rintro⟨a,w,h⟩;exact(show False from h)) ⟨e0,d0,d4⟩ (fun hHeld=> ?_)
     refine aE 1 (v:= ?_) rfl ?v1 ?_
     case v1=>(intro w hSw;(try dsimp only at hSw);go_simp;try with_reducible rfl)
     try simp only[ao]
     refine aE 2 (v:= ?_) rfl ?v2 ?_
     case v2=>(intro w hSw;(try dsimp only at hSw);go_simp;try with_reducible rfl)
     try simp only[ao]
     refine aE 3 (v:= ?_) rfl ?v3 ?_
     case v3=>(intro w hSw;(try dsimp only at hSw);go_simp;try with_reducible rfl)
     try simp only[ao]
     refine aE 4 (v:= ?_) rfl ?v4 ?_
     case v4=>(intro w hSw;(try dsimp only at hSw);go_simp;try with_reducible rfl)
     try simp only[ao]
     refine aE 5 (v:= ?_) rfl ?v5 ?_
     case v5=>(intro w hSw;(try dsimp only at hSw);go_simp;try with_reducible rfl)
     try simp only[ao]
     refine aE 6 (v:= ?_) rfl ?v6 ?_
     case v6=>(intro w hSw;(try dsimp only at hSw);go_simp;try with_reducible rfl)
     try simp only[ao]
     refine aE 7 (v:= ?_) rfl ?v7 ?_
     case v7=>(intro w hSw;(try dsimp only at hSw);go_simp;try with_reducible rfl)
     try simp only[ao]
     refine wpAnyH_ready (rs:=[0,8]) (by kernel_rfl) (by simp) ?_
     refine AllReadyH.cons rfl (fun K hK=> ?_) (AllReadyH.cons rfl (fun K hK=> ?_) AllReadyH.nil)
     ·skip
      go_simp
      refine hK.out _ _ ?_ (fun hHeld=> ?_)
      ·exact hHeld
      clear hK K
      try simp only[ao]
      refine aZ 8 rfl (fun K hK=> ?_)
      go_simp
      go_at_call 137
      refine(HLN.out _ (by exact ak HBELc.out rfl rfl rfl rfl)).mono ?_
      rintro e w5 ⟨rfl,hb5⟩
      have HBW5:=aa (show Below Wc.heap.size Wc w5 from bQ hb5 rfl rfl rfl rfl)
      have HBC5:=aa (BC.below HBC.out HBW5.out)
      have HRW5:=aa (HRW.out.below HBW5.out)
      have HV5:=aa (HP.out _ (HBEL.out.trans HRW5.out.be)).view
      obtain⟨e50,_,_,_,_,e55⟩:=BC.cells HBC5.out
      obtain⟨_,_,_,_,f55⟩:=BC.free HBC5.out
      clear hb5
      refine hK.out _ _ ?_ (fun hHeld=> ?_)
      ·exact⟨e50,HV5.out.1,HV5.out.2.2.2.1 x y HY.out⟩
      clear hK K
      try simp only[ao]
      refine aE 9 (v:= ?_) rfl ?v9 ?_
      case v9=>(intro w hSw;(try dsimp only at hSw);go_simp;try with_reducible rfl)
      try simp only[ao]
      refine aZ 10 rfl (fun K hK=> ?_)
      go_simp
      have HBC6:=aa (BC.s5 HBC5.out (ah-(ln:Int)))
      have HRW6:=aa (HRW5.out.set (B:=w.heap.size+5) (off:=0) (by omega) (by omega) (.int .i64 (ah-(ln:Int))))
      have HV6:=aa (HP.out _ (HBEL.out.trans HRW6.out.be)).view
      refine hK.out _ _ ?_ (fun hHeld=> ?_)
      ·exact⟨(BC.cells HBC6.out).1,HV6.out.1,HV6.out.2.2.2.1 x y HY.out⟩
      clear hK K
      try simp only[ao]
      refine wpAnyH_done (by kernel_rfl) ?_ _
      gi_wp2
      refine⟨HRW6.out.ko,HRW6.out.fr,⟨?_,by have:=HRW6.out.hz;omega⟩,HBEL.out.trans HRW6.out.be⟩
      rw[HBS.out,HAS.out,HB2.out]
      show BC _ _ _ (rL (MM H x)) (gF (MM H x)) (x:Int) true _
      rw[HXI.out.1,HXI.out.2]
      exact HBC6.out
     ·skip
      go_simp
      go_at_call 137
      refine(HLN.out _ (by exact ak HBELc.out rfl rfl rfl rfl)).mono ?_
      rintro e w5 ⟨rfl,hb5⟩
      have HBW5:=aa (show Below Wc.heap.size Wc w5 from bQ hb5 rfl rfl rfl rfl)
      have HBC5:=aa (BC.below HBC.out HBW5.out)
      have HRW5:=aa (HRW.out.below HBW5.out)
      have HV5:=aa (HP.out _ (HBEL.out.trans HRW5.out.be)).view
      obtain⟨e50,_,_,_,_,e55⟩:=BC.cells HBC5.out
      obtain⟨_,_,_,_,f55⟩:=BC.free HBC5.out
      clear hb5
      refine hK.out _ _ ?_ (fun hHeld=> ?_)
      ·exact⟨e50,HV5.out.1,HV5.out.2.2.2.1 x y HY.out⟩
      clear hK K
      try simp only[ao]
      refine aZ 0 rfl (fun K hK=> ?_)
      go_simp
      refine hK.out _ _ ?_ (fun hHeld=> ?_)
      ·exact hHeld
      clear hK K
      try simp only[ao]
      refine aE 9 (v:= ?_) rfl ?v9 ?_
      case v9=>(intro w hSw;(try dsimp only at hSw);go_simp;try with_reducible rfl)
      try simp only[ao]
      refine aZ 10 rfl (fun K hK=> ?_)
      go_simp
      have HBC6:=aa (BC.s5 HBC5.out (ah-(ln:Int)))
      have HRW6:=aa (HRW5.out.set (B:=w.heap.size+5) (off:=0) (by omega) (by omega) (.int .i64 (ah-(ln:Int))))
      have HV6:=aa (HP.out _ (HBEL.out.trans HRW6.out.be)).view
      refine hK.out _ _ ?_ (fun hHeld=> ?_)
      ·exact⟨(BC.cells HBC6.out).1,HV6.out.1,HV6.out.2.2.2.1 x y HY.out⟩
      clear hK K
      try simp only[ao]
      refine wpAnyH_done (by kernel_rfl) ?_ _
      gi_wp2
      refine⟨HRW6.out.ko,HRW6.out.fr,⟨?_,by have:=HRW6.out.hz;omega⟩,HBEL.out.trans HRW6.out.be⟩
      rw[HBS.out,HAS.out,HB2.out]
      show BC _ _ _ (rL (MM H x)) (gF (MM H x)) (x:Int) true _
      rw[HXI.out.1,HXI.out.2]
      exact HBC6.out
    |some c=>
     replace HB:Hid (BC W w.heap.size pb (rL (MM H c)) (gF (MM H c)) (c:Int) true ah):=HB
     have HUP:=aa (fun W=>Ke.qp W z.2 (gF (MM H c)))
     by_cases hup:Ke.up z.2 (gF (MM H c))=true
     ·rw[hup] at HUP
      have HB2:Hid (cF H (some c) x=some x):=by unfold Hid cF;rw[HMX.out];simp[hup]
      have HXI:Hid (rL (MM H x)=(z.1:Int)∧gF (MM H x)=z.2):=by unfold Hid;rw[HMX.out];exact⟨rfl,rfl⟩
      clear hup
      gi_wp2_with (first|(refine⟨trivial,?_⟩;gi_at_call 136;refine(CallsIn.inRound l (callsIn_wide.2 HTOP.out)).mono ?_;rintro e w1 ⟨rfl,hb1⟩;have HB1:=aa (BC.below HB.out hb1);have HBW:=aa hb1;obtain⟨a10,a11,⟨a12,a13,a14⟩,a15,a16,a17⟩:=BC.cells HB1.out;have z1:=BC.lt HB1.out;have z2:w.heap.size<w1.heap.size:=(by omega);have z3:w.heap.size+1<w1.heap.size:=(by omega);have z4:w.heap.size+2<w1.heap.size:=(by omega);have z5:w.heap.size+3<w1.heap.size:=(by omega);have z6:w.heap.size+4<w1.heap.size:=(by omega);clear hb1)|(refine⟨trivial,?_⟩;gi_at_call 101;refine(CallsIn.inRound l (callsIn_wide.2 (HUP.out _))).mono ?_;rintro e w2 ⟨rfl,hb2⟩;have HBW2:=aa hb2;clear hb2))
      have HCw:=aa (BC.below (BC.below HB1.out ((Below.refl _ w1).alloc (Nat.le_refl _) (.cells #[.bool z.2.e,.int .u64 z.2.d,.int .u8 z.2.l] 130))) HBW2.out)
      have HRw:=aa ((((RW.refl HZ.out).below HBW.out).below ((Below.refl _ w1).alloc (Nat.le_refl _) (.cells #[.bool z.2.e,.int .u64 z.2.d,.int .u8 z.2.l] 130))).below HBW2.out)
      have HKw:=aa (show w2.heap[w1.heap.size]? =some (.cells #[.bool z.2.e,.int .u64 z.2.d,.int .u8 z.2.l] 130) from(HBW2.out.block _ (by simp)).trans (World.alloc_heap_new w1 _))
      obtain⟨_,g1,⟨g2,g3,g4⟩,g5,g6,_⟩:=BC.cells HCw.out
      obtain⟨q1,⟨q2,q3,q4⟩,q5,q6,_⟩:=BC.free HCw.out
      have hkb:w.heap.size+9≤w1.heap.size:=Nat.le_trans HZ.out HBW.out.size
      refine bE (fun w'=>w'.cell? ⟨w1.heap.size,0,none⟩=some (.bool z.2.e)∧w'.cell? ⟨w1.heap.size,1,none⟩=some (.int .u64 z.2.d)∧w'.cell? ⟨w1.heap.size,2,none⟩=some (.int .u8 z.2.l)) (by kernel_rfl) (by kernel_rfl) (by rintro⟨a,w,h⟩;exact(show False from h)) ⟨(an (aB HKw.out) 0).1,(an (aB HKw.out) 1).1,(an (aB HKw.out) 2).1⟩ (fun hHeld=> ?_)
      refine aE 0 (v:= ?_) rfl ?v0 ?_
      case v0=>(intro w hSw;(try dsimp only at hSw);go_simp;try with_reducible rfl)
      try simp only[ao]
      refine aE 1 (v:= ?_) rfl ?v1 ?_
      case v1=>(intro w hSw;(try dsimp only at hSw);go_simp;try with_reducible rfl)
      try simp only[ao]
      refine aE 2 (v:= ?_) rfl ?v2 ?_
      case v2=>(intro w hSw;(try dsimp only at hSw);go_simp;try with_reducible rfl)
      try simp only[ao]
      refine aZ 3 rfl (fun K hK=> ?_)
      go_simp
      have HC3:=aa (BC.s1 HCw.out (z.1:Int))
      have HR3:=aa (HRw.out.set (B:=w.heap.size+1) (off:=0) (by omega) (by omega) (.int .i64 (z.1:Int)))
      have HK3:=aa (ab (B:=w.heap.size+1) (off:=0) (v:= .int .i64 (z.1:Int)) HKw.out (by omega))
      refine hK.out _ _ ?_ (fun hHeld=> ?_)
      ·exact⟨(an (aB HK3.out) 0).1,(an (aB HK3.out) 1).1,(an (aB HK3.out) 2).1⟩
      clear hK K
      try simp only[ao]
      refine aZ 4 rfl (fun K hK=> ?_)
      go_simp
      have HC4:=aa (BC.s2 HC3.out z.2)
      have HR4:=aa (((HR3.out.set (B:=w.heap.size+2) (off:=0) (by omega) (by omega) (.bool z.2.e)).set (B:=w.heap.size+2) (off:=1) (by omega) (by omega) (.int .u64 z.2.d)).set (B:=w.heap.size+2) (off:=2) (by omega) (by omega) (.int .u8 z.2.l))
      have HK4:=aa (ab (B:=w.heap.size+2) (off:=2) (v:= .int .u8 z.2.l) (ab (B:=w.heap.size+2) (off:=1) (v:= .int .u64 z.2.d) (ab (B:=w.heap.size+2) (off:=0) (v:= .bool z.2.e) HK3.out (by omega)) (by omega)) (by omega))
      refine hK.out _ _ ?_ (fun hHeld=> ?_)
      ·exact⟨(an (aB HK4.out) 0).1,(an (aB HK4.out) 1).1,(an (aB HK4.out) 2).1⟩
      clear hK K
      try simp only[ao]
      refine aZ 5 rfl (fun K hK=> ?_)
      go_simp
      have HC5:=aa (BC.s3 HC4.out (x:Int))
      have HR5:=aa (HR4.out.set (B:=w.heap.size+3) (off:=0) (by omega) (by omega) (.int .i64 (x:Int)))
      have HK5:=aa (ab (B:=w.heap.size+3) (off:=0) (v:= .int .i64 (x:Int)) HK4.out (by omega))
      refine hK.out _ _ ?_ (fun hHeld=> ?_)
      ·exact⟨(an (aB HK5.out) 0).1,(an (aB HK5.out) 1).1,(an (aB HK5.out) 2).1⟩
      clear hK K
      try simp only[ao]
      refine aZ 6 rfl (fun K hK=> ?_)
      go_simp
      have HC6:=aa (BC.s4 HC5.out true)
      have HR6:=aa (HR5.out.set (B:=w.heap.size+4) (off:=0) (by omega) (by omega) (.bool true))
      have HK6:=aa (ab (B:=w.heap.size+4) (off:=0) (v:= .bool true) HK5.out (by omega))
      refine hK.out _ _ ?_ (fun hHeld=> ?_)
      ·exact⟨(an (aB HK6.out) 0).1,(an (aB HK6.out) 1).1,(an (aB HK6.out) 2).1⟩
      clear hK K
      try simp only[ao]
      refine wpAnyH_done (by kernel_rfl) ?_ _
      skip
      have HBC:=aa (BC.drew HC6.out)
      have HRW:=aa HR6.out.drew
      clear g1 g2 g3 g4 g5 g6 q1 q2 q3 q4 q5 q6 HCw
      clear HC3 HC4 HC5 HC6 HR3 HR4 HR5 HR6 HK3 HK4 HK5 HK6 HRw HKw hHeld
      generalize ((((((w2.setCell ⟨w.heap.size+1,0,none⟩ (.int .i64 (z.1:Int))).setCell ⟨w.heap.size+2,0,none⟩ (.bool z.2.e)).setCell ⟨w.heap.size+2,1,none⟩ (.int .u64 z.2.d)).setCell ⟨w.heap.size+2,2,none⟩ (.int .u8 z.2.l)).setCell ⟨w.heap.size+3,0,none⟩ (.int .i64 (x:Int))).setCell ⟨w.heap.size+4,0,none⟩ (.bool true)).drew=Wc at*
      gi_wp2
      have HBELc:=aa (HBEL.out.trans HRW.out.be)
      obtain⟨d0,_,_,d3,_⟩:=(HP.out _ HBELc.out).view
      have d4:=d3 x y HY.out
      clear d3
      obtain⟨e0,_,_,_,_,e5⟩:=BC.cells HBC.out
      refine bE (fun w'=>w'.cell? ⟨w.heap.size,0,none⟩=some (.pointer (some ⟨pb,0,none⟩))∧w'.cell? ⟨pb,0,none⟩=some (.slice (some ⟨g,0,none⟩) (np+1) cap)∧w'.cell? ⟨g,x,none⟩=some (.pointer (some ⟨y.sb,0,none⟩))) (by kernel_rfl) (by kernel_rfl) (by rintro⟨a,w,h⟩;exact(show False from h)) ⟨e0,d0,d4⟩ (fun hHeld=> ?_)
      refine aE 1 (v:= ?_) rfl ?v1 ?_
      case v1=>(intro w hSw;(try dsimp only at hSw);go_simp;try with_reducible rfl)
      try simp only[ao]
      refine aE 2 (v:= ?_) rfl ?v2 ?_
      case v2=>(intro w hSw;(try dsimp only at hSw);go_simp;try with_reducible rfl)
      try simp only[ao]
      refine aE 3 (v:= ?_) rfl ?v3 ?_
      case v3=>(intro w hSw;(try dsimp only at hSw);go_simp;try with_reducible rfl)
      try simp only[ao]
      refine aE 4 (v:= ?_) rfl ?v4 ?_
      case v4=>(intro w hSw;(try dsimp only at hSw);go_simp;try with_reducible rfl)
      try simp only[ao]
      refine aE 5 (v:= ?_) rfl ?v5 ?_
      case v5=>(intro w hSw;(try dsimp only at hSw);go_simp;try with_reducible rfl)
      try simp only[ao]
      refine aE 6 (v:= ?_) rfl ?v6 ?_
      case v6=>(intro w hSw;(try dsimp only at hSw);go_simp;try with_reducible rfl)
      try simp only[ao]
      refine aE 7 (v:= ?_) rfl ?v7 ?_
      case v7=>(intro w hSw;(try dsimp only at hSw);go_simp;try with_reducible rfl)
      try simp only[ao]
      refine wpAnyH_ready (rs:=[0,8]) (by kernel_rfl) (by simp) ?_
      refine AllReadyH.cons rfl (fun K hK=> ?_) (AllReadyH.cons rfl (fun K hK=> ?_) AllReadyH.nil)
      ·skip
       go_simp
       refine hK.out _ _ ?_ (fun hHeld=> ?_)
       ·exact hHeld
       clear hK K
       try simp only[ao]
       refine aZ 8 rfl (fun K hK=> ?_)
       go_simp
       go_at_call 137
       refine(HLN.out _ (by exact ak HBELc.out rfl rfl rfl rfl)).mono ?_
       rintro e w5 ⟨rfl,hb5⟩
       have HBW5:=aa (show Below Wc.heap.size Wc w5 from bQ hb5 rfl rfl rfl rfl)
       have HBC5:=aa (BC.below HBC.out HBW5.out)
       have HRW5:=aa (HRW.out.below HBW5.out)
       have HV5:=aa (HP.out _ (HBEL.out.trans HRW5.out.be)).view
       obtain⟨e50,_,_,_,_,e55⟩:=BC.cells HBC5.out
       obtain⟨_,_,_,_,f55⟩:=BC.free HBC5.out
       clear hb5
       refine hK.out _ _ ?_ (fun hHeld=> ?_)
       ·exact⟨e50,HV5.out.1,HV5.out.2.2.2.1 x y HY.out⟩
       clear hK K
       try simp only[ao]
       refine aE 9 (v:= ?_) rfl ?v9 ?_
       case v9=>(intro w hSw;(try dsimp only at hSw);go_simp;try with_reducible rfl)
       try simp only[ao]
       refine aZ 10 rfl (fun K hK=> ?_)
       go_simp
       have HBC6:=aa (BC.s5 HBC5.out (ah-(ln:Int)))
       have HRW6:=aa (HRW5.out.set (B:=w.heap.size+5) (off:=0) (by omega) (by omega) (.int .i64 (ah-(ln:Int))))
       have HV6:=aa (HP.out _ (HBEL.out.trans HRW6.out.be)).view
       refine hK.out _ _ ?_ (fun hHeld=> ?_)
       ·exact⟨(BC.cells HBC6.out).1,HV6.out.1,HV6.out.2.2.2.1 x y HY.out⟩
       clear hK K
       try simp only[ao]
       refine wpAnyH_done (by kernel_rfl) ?_ _
       gi_wp2
       refine⟨HRW6.out.ko,HRW6.out.fr,⟨?_,by have:=HRW6.out.hz;omega⟩,HBEL.out.trans HRW6.out.be⟩
       rw[HBS.out,HAS.out,HB2.out]
       show BC _ _ _ (rL (MM H x)) (gF (MM H x)) (x:Int) true _
       rw[HXI.out.1,HXI.out.2]
       exact HBC6.out
      ·skip
       go_simp
       go_at_call 137
       refine(HLN.out _ (by exact ak HBELc.out rfl rfl rfl rfl)).mono ?_
       rintro e w5 ⟨rfl,hb5⟩
       have HBW5:=aa (show Below Wc.heap.size Wc w5 from bQ hb5 rfl rfl rfl rfl)
       have HBC5:=aa (BC.below HBC.out HBW5.out)
       have HRW5:=aa (HRW.out.below HBW5.out)
       have HV5:=aa (HP.out _ (HBEL.out.trans HRW5.out.be)).view
       obtain⟨e50,_,_,_,_,e55⟩:=BC.cells HBC5.out
       obtain⟨_,_,_,_,f55⟩:=BC.free HBC5.out
       clear hb5
       refine hK.out _ _ ?_ (fun hHeld=> ?_)
       ·exact⟨e50,HV5.out.1,HV5.out.2.2.2.1 x y HY.out⟩
       clear hK K
       try simp only[ao]
       refine aZ 0 rfl (fun K hK=> ?_)
       go_simp
       refine hK.out _ _ ?_ (fun hHeld=> ?_)
       ·exact hHeld
       clear hK K
       try simp only[ao]
       refine aE 9 (v:= ?_) rfl ?v9 ?_
       case v9=>(intro w hSw;(try dsimp only at hSw);go_simp;try with_reducible rfl)
       try simp only[ao]
       refine aZ 10 rfl (fun K hK=> ?_)
       go_simp
       have HBC6:=aa (BC.s5 HBC5.out (ah-(ln:Int)))
       have HRW6:=aa (HRW5.out.set (B:=w.heap.size+5) (off:=0) (by omega) (by omega) (.int .i64 (ah-(ln:Int))))
       have HV6:=aa (HP.out _ (HBEL.out.trans HRW6.out.be)).view
       refine hK.out _ _ ?_ (fun hHeld=> ?_)
       ·exact⟨(BC.cells HBC6.out).1,HV6.out.1,HV6.out.2.2.2.1 x y HY.out⟩
       clear hK K
       try simp only[ao]
       refine wpAnyH_done (by kernel_rfl) ?_ _
       gi_wp2
       refine⟨HRW6.out.ko,HRW6.out.fr,⟨?_,by have:=HRW6.out.hz;omega⟩,HBEL.out.trans HRW6.out.be⟩
       rw[HBS.out,HAS.out,HB2.out]
       show BC _ _ _ (rL (MM H x)) (gF (MM H x)) (x:Int) true _
       rw[HXI.out.1,HXI.out.2]
       exact HBC6.out
     ·have hup':Ke.up z.2 (gF (MM H c))=false:=by simpa using hup
      rw[hup'] at HUP
      have HB2:Hid (cF H (some c) x=some c):=by unfold Hid cF;rw[HMX.out];simp[hup']
      clear hup hup'
      gi_wp2_with (first|(refine⟨trivial,?_⟩;gi_at_call 136;refine(CallsIn.inRound l (callsIn_wide.2 HTOP.out)).mono ?_;rintro e w1 ⟨rfl,hb1⟩;have HB1:=aa (BC.below HB.out hb1);have HBW:=aa hb1;obtain⟨a10,a11,⟨a12,a13,a14⟩,a15,a16,a17⟩:=BC.cells HB1.out;have z1:=BC.lt HB1.out;have z2:w.heap.size<w1.heap.size:=(by omega);have z3:w.heap.size+1<w1.heap.size:=(by omega);have z4:w.heap.size+2<w1.heap.size:=(by omega);have z5:w.heap.size+3<w1.heap.size:=(by omega);have z6:w.heap.size+4<w1.heap.size:=(by omega);clear hb1)|(refine⟨trivial,?_⟩;gi_at_call 101;refine(CallsIn.inRound l (callsIn_wide.2 (HUP.out _))).mono ?_;rintro e w2 ⟨rfl,hb2⟩;have HBW2:=aa hb2;clear hb2))
      have HBC:=aa (BC.below (BC.below HB1.out ((Below.refl _ w1).alloc (Nat.le_refl _) (.cells #[.bool z.2.e,.int .u64 z.2.d,.int .u8 z.2.l] 130))) HBW2.out)
      have HRW:=aa ((((RW.refl HZ.out).below HBW.out).below ((Below.refl _ w1).alloc (Nat.le_refl _) (.cells #[.bool z.2.e,.int .u64 z.2.d,.int .u8 z.2.l] 130))).below HBW2.out)
      clear HBW2
      generalize w2=Wc at*
      have HBELc:=aa (HBEL.out.trans HRW.out.be)
      obtain⟨d0,_,_,d3,_⟩:=(HP.out _ HBELc.out).view
      have d4:=d3 x y HY.out
      clear d3
      obtain⟨e0,_,_,_,_,e5⟩:=BC.cells HBC.out
      refine bE (fun w'=>w'.cell? ⟨w.heap.size,0,none⟩=some (.pointer (some ⟨pb,0,none⟩))∧w'.cell? ⟨pb,0,none⟩=some (.slice (some ⟨g,0,none⟩) (np+1) cap)∧w'.cell? ⟨g,x,none⟩=some (.pointer (some ⟨y.sb,0,none⟩))) (by kernel_rfl) (by kernel_rfl) (by rintro⟨a,w,h⟩;exact(show False from h)) ⟨e0,d0,d4⟩ (fun hHeld=> ?_)
      refine aE 1 (v:= ?_) rfl ?v1 ?_
      case v1=>(intro w hSw;(try dsimp only at hSw);go_simp;try with_reducible rfl)
      try simp only[ao]
      refine aE 2 (v:= ?_) rfl ?v2 ?_
      case v2=>(intro w hSw;(try dsimp only at hSw);go_simp;try with_reducible rfl)
      try simp only[ao]
      refine aE 3 (v:= ?_) rfl ?v3 ?_
      case v3=>(intro w hSw;(try dsimp only at hSw);go_simp;try with_reducible rfl)
      try simp only[ao]
      refine aE 4 (v:= ?_) rfl ?v4 ?_
      case v4=>(intro w hSw;(try dsimp only at hSw);go_simp;try with_reducible rfl)
      try simp only[ao]
      refine aE 5 (v:= ?_) rfl ?v5 ?_
      case v5=>(intro w hSw;(try dsimp only at hSw);go_simp;try with_reducible rfl)
      try simp only[ao]
      refine aE 6 (v:= ?_) rfl ?v6 ?_
      case v6=>(intro w hSw;(try dsimp only at hSw);go_simp;try with_reducible rfl)
      try simp only[ao]
      refine aE 7 (v:= ?_) rfl ?v7 ?_
      case v7=>(intro w hSw;(try dsimp only at hSw);go_simp;try with_reducible rfl)
      try simp only[ao]
      refine wpAnyH_ready (rs:=[0,8]) (by kernel_rfl) (by simp) ?_
      refine AllReadyH.cons rfl (fun K hK=> ?_) (AllReadyH.cons rfl (fun K hK=> ?_) AllReadyH.nil)
      ·skip
       go_simp
       refine hK.out _ _ ?_ (fun hHeld=> ?_)
       ·exact hHeld
       clear hK K
       try simp only[ao]
       refine aZ 8 rfl (fun K hK=> ?_)
       go_simp
       go_at_call 137
       refine(HLN.out _ (by exact ak HBELc.out rfl rfl rfl rfl)).mono ?_
       rintro e w5 ⟨rfl,hb5⟩
       have HBW5:=aa (show Below Wc.heap.size Wc w5 from bQ hb5 rfl rfl rfl rfl)
       have HBC5:=aa (BC.below HBC.out HBW5.out)
       have HRW5:=aa (HRW.out.below HBW5.out)
       have HV5:=aa (HP.out _ (HBEL.out.trans HRW5.out.be)).view
       obtain⟨e50,_,_,_,_,e55⟩:=BC.cells HBC5.out
       obtain⟨_,_,_,_,f55⟩:=BC.free HBC5.out
       clear hb5
       refine hK.out _ _ ?_ (fun hHeld=> ?_)
       ·exact⟨e50,HV5.out.1,HV5.out.2.2.2.1 x y HY.out⟩
       clear hK K
       try simp only[ao]
       refine aE 9 (v:= ?_) rfl ?v9 ?_
       case v9=>(intro w hSw;(try dsimp only at hSw);go_simp;try with_reducible rfl)
       try simp only[ao]
       refine aZ 10 rfl (fun K hK=> ?_)
       go_simp
       have HBC6:=aa (BC.s5 HBC5.out (ah-(ln:Int)))
       have HRW6:=aa (HRW5.out.set (B:=w.heap.size+5) (off:=0) (by omega) (by omega) (.int .i64 (ah-(ln:Int))))
       have HV6:=aa (HP.out _ (HBEL.out.trans HRW6.out.be)).view
       refine hK.out _ _ ?_ (fun hHeld=> ?_)
       ·exact⟨(BC.cells HBC6.out).1,HV6.out.1,HV6.out.2.2.2.1 x y HY.out⟩
       clear hK K
       try simp only[ao]
       refine wpAnyH_done (by kernel_rfl) ?_ _
       gi_wp2
       refine⟨HRW6.out.ko,HRW6.out.fr,⟨?_,by have:=HRW6.out.hz;omega⟩,HBEL.out.trans HRW6.out.be⟩
       rw[HBS.out,HAS.out,HB2.out]
       exact HBC6.out
      ·skip
       go_simp
       go_at_call 137
       refine(HLN.out _ (by exact ak HBELc.out rfl rfl rfl rfl)).mono ?_
       rintro e w5 ⟨rfl,hb5⟩
       have HBW5:=aa (show Below Wc.heap.size Wc w5 from bQ hb5 rfl rfl rfl rfl)
       have HBC5:=aa (BC.below HBC.out HBW5.out)
       have HRW5:=aa (HRW.out.below HBW5.out)
       have HV5:=aa (HP.out _ (HBEL.out.trans HRW5.out.be)).view
       obtain⟨e50,_,_,_,_,e55⟩:=BC.cells HBC5.out
       obtain⟨_,_,_,_,f55⟩:=BC.free HBC5.out
       clear hb5
       refine hK.out _ _ ?_ (fun hHeld=> ?_)
       ·exact⟨e50,HV5.out.1,HV5.out.2.2.2.1 x y HY.out⟩
       clear hK K
       try simp only[ao]
       refine aZ 0 rfl (fun K hK=> ?_)
       go_simp
       refine hK.out _ _ ?_ (fun hHeld=> ?_)
       ·exact hHeld
       clear hK K
       try simp only[ao]
       refine aE 9 (v:= ?_) rfl ?v9 ?_
       case v9=>(intro w hSw;(try dsimp only at hSw);go_simp;try with_reducible rfl)
       try simp only[ao]
       refine aZ 10 rfl (fun K hK=> ?_)
       go_simp
       have HBC6:=aa (BC.s5 HBC5.out (ah-(ln:Int)))
       have HRW6:=aa (HRW5.out.set (B:=w.heap.size+5) (off:=0) (by omega) (by omega) (.int .i64 (ah-(ln:Int))))
       have HV6:=aa (HP.out _ (HBEL.out.trans HRW6.out.be)).view
       refine hK.out _ _ ?_ (fun hHeld=> ?_)
       ·exact⟨(BC.cells HBC6.out).1,HV6.out.1,HV6.out.2.2.2.1 x y HY.out⟩
       clear hK K
       try simp only[ao]
       refine wpAnyH_done (by kernel_rfl) ?_ _
       gi_wp2
       refine⟨HRW6.out.ko,HRW6.out.fr,⟨?_,by have:=HRW6.out.hz;omega⟩,HBEL.out.trans HRW6.out.be⟩
       rw[HBS.out,HAS.out,HB2.out]
       exact HBC6.out
 case done=>
  rintro D ys W hD hys ⟨⟨hB,hWz⟩,hbel⟩ hK
  rw[hys] at hB
  generalize pa H (di np p d)=ah at*
  generalize hbe:iA H (di np p d)=b at hB
  have HBE:=aa hbe
  clear hbe
  gi_wp2
  refine wpIn_wide.2 ?_
  have HCw:=aa hB
  have HRw:=aa (RW.refl (n0:=w.heap.size) (W:=W) (by omega))
  obtain⟨_,g1,⟨g2,g3,g4⟩,g5,g6,_⟩:=BC.cells hB
  obtain⟨q1,⟨q2,q3,q4⟩,q5,q6,_⟩:=BC.free hB
  have HK:=aa hK
  have HBEL:=aa hbel
  clear hB hK hbel hst hrd hS x6 x7 x8
  refine wp_region_noPanic ?_
  refine wp_region_held_drew (S:=(fun w'=>w'.cell? ⟨w.heap.size+1,0,none⟩=some (.int .i64 (bI H b))∧(w'.cell? ⟨w.heap.size+2,0,none⟩=some (.bool (bK H b).e)∧w'.cell? ⟨w.heap.size+2,1,none⟩=some (.int .u64 (bK H b).d)∧w'.cell? ⟨w.heap.size+2,2,none⟩=some (.int .u8 (bK H b).l))∧w'.cell? ⟨w.heap.size+3,0,none⟩=some (.int .i64 (bA b))∧w'.cell? ⟨w.heap.size+4,0,none⟩=some (.bool b.isSome))) (by kernel_rfl) ?_ (fun hHeld=> ?_)
  ·exact⟨g1,⟨g2,g3,g4⟩,g5,g6⟩
  refine aE 0 (v:= ?_) rfl ?v0 ?_
  case v0=>(intro w hSw;(try dsimp only at hSw);go_simp;try with_reducible rfl)
  try simp only[ao]
  refine aE 1 (v:= ?_) rfl ?v1 ?_
  case v1=>(intro w hSw;(try dsimp only at hSw);go_simp;try with_reducible rfl)
  try simp only[ao]
  refine aE 2 (v:= ?_) rfl ?v2 ?_
  case v2=>(intro w hSw;(try dsimp only at hSw);go_simp;try with_reducible rfl)
  try simp only[ao]
  refine aE 3 (v:= ?_) rfl ?v3 ?_
  case v3=>(intro w hSw;(try dsimp only at hSw);go_simp;try with_reducible rfl)
  try simp only[ao]
  refine aZ 4 rfl (fun K hK=> ?_)
  go_simp
  have HC4:=aa (BC.s1 HCw.out (bI H b))
  have HR4:=aa (HRw.out.set (B:=w.heap.size+1) (off:=0) (by omega) (by omega) (.int .i64 (bI H b)))
  refine hK.out _ _ ?_ (fun hHeld=> ?_)
  ·exact⟨(BC.cells (BC.drew HC4.out)).2.1,(BC.cells (BC.drew HC4.out)).2.2.1,(BC.cells (BC.drew HC4.out)).2.2.2.1,(BC.cells (BC.drew HC4.out)).2.2.2.2.1⟩
  clear hK K
  try simp only[ao]
  refine aZ 5 rfl (fun K hK=> ?_)
  go_simp
  have HC5:=aa (BC.s2 HC4.out (bK H b))
  have HR5:=aa (((HR4.out.set (B:=w.heap.size+2) (off:=0) (by omega) (by omega) (.bool (bK H b).e)).set (B:=w.heap.size+2) (off:=1) (by omega) (by omega) (.int .u64 (bK H b).d)).set (B:=w.heap.size+2) (off:=2) (by omega) (by omega) (.int .u8 (bK H b).l))
  refine hK.out _ _ ?_ (fun hHeld=> ?_)
  ·exact⟨(BC.cells (BC.drew HC5.out)).2.1,(BC.cells (BC.drew HC5.out)).2.2.1,(BC.cells (BC.drew HC5.out)).2.2.2.1,(BC.cells (BC.drew HC5.out)).2.2.2.2.1⟩
  clear hK K
  try simp only[ao]
  refine aZ 6 rfl (fun K hK=> ?_)
  go_simp
  have HC6:=aa (BC.s3 HC5.out (bA b))
  have HR6:=aa (HR5.out.set (B:=w.heap.size+3) (off:=0) (by omega) (by omega) (.int .i64 (bA b)))
  refine hK.out _ _ ?_ (fun hHeld=> ?_)
  ·exact⟨(BC.cells (BC.drew HC6.out)).2.1,(BC.cells (BC.drew HC6.out)).2.2.1,(BC.cells (BC.drew HC6.out)).2.2.2.1,(BC.cells (BC.drew HC6.out)).2.2.2.2.1⟩
  clear hK K
  try simp only[ao]
  refine aZ 7 rfl (fun K hK=> ?_)
  go_simp
  have HC7:=aa (BC.s4 HC6.out b.isSome)
  have HR7:=aa (HR6.out.set (B:=w.heap.size+4) (off:=0) (by omega) (by omega) (.bool b.isSome))
  refine hK.out _ _ ?_ (fun hHeld=> ?_)
  ·exact⟨(BC.cells (BC.drew HC7.out)).2.1,(BC.cells (BC.drew HC7.out)).2.2.1,(BC.cells (BC.drew HC7.out)).2.2.2.1,(BC.cells (BC.drew HC7.out)).2.2.2.2.1⟩
  clear hK K
  try simp only[ao]
  refine wpAnyH_done (by kernel_rfl) ?_ _
  skip
  have HBC:=aa (BC.drew HC7.out)
  have HRW:=aa HR7.out.drew
  have hK:=HRW.out.ko.same D _ HK.out rfl
  clear g1 g2 g3 g4 g5 g6 q1 q2 q3 q4 q5 q6 HC4 HC5 HC6 HC7 HR4 HR5 HR6 HR7 HCw HRw hHeld HK
  generalize ((((((W.setCell ⟨w.heap.size+1,0,none⟩ (.int .i64 (bI H b))).setCell ⟨w.heap.size+2,0,none⟩ (.bool (bK H b).e)).setCell ⟨w.heap.size+2,1,none⟩ (.int .u64 (bK H b).d)).setCell ⟨w.heap.size+2,2,none⟩ (.int .u8 (bK H b).l)).setCell ⟨w.heap.size+3,0,none⟩ (.int .i64 (bA b))).setCell ⟨w.heap.size+4,0,none⟩ (.bool b.isSome)).drew=Wc at*
  have hDn:w.heap.size+9≤D:=by omega
  have hP:=BC.kept HBC.out (grownBy_putObj' Wc D (.deferred none)) (fun r e=>by cases e;exact⟨_,hK,rfl⟩)
  obtain⟨_,g1,⟨g2,g3,g4⟩,g5,g6,_⟩:=BC.cells hP
  simp only[NoPanic]
  go_wp2
  gi_wp2
  try simp only[Exit.noGoto]
  refine⟨by simp,.inl ⟨_,_,rfl,run_takeDeferred hK,?_⟩⟩
  refine⟨_,?_,rfl,?_⟩
  ·simp[results,Tryz.f100,go_sem,g1,g2,g3,g4,g5,g6,HBE.out]
  ·exact(HBEL.out.trans HRW.out.be).trans (belowK_b (w:=w) (Nat.le_refl _) Wc D _ _ (by omega) hK rfl rfl)
 case stop=>
  rintro D c pre W hD hpre ⟨rfl,⟨pre',x,rfl,ha,hB,hWz⟩,hbel⟩ hK
  have e:=vy H np p d hp (dx pre') ((show dx pre'<+:dx (pre'++[x]) by rw[kq];exact List.prefix_append _ _).trans hpre) ha
  rw[←e] at hB
  clear e
  generalize hbe:iA H (di np p d)=b at hB
  have HBE:=aa hbe
  clear hbe
  gi_wp2
  refine wpIn_wide.2 ?_
  have HCw:=aa hB
  have HRw:=aa (RW.refl (n0:=w.heap.size) (W:=W) (by omega))
  obtain⟨_,g1,⟨g2,g3,g4⟩,g5,g6,_⟩:=BC.cells hB
  obtain⟨q1,⟨q2,q3,q4⟩,q5,q6,_⟩:=BC.free hB
  have HK:=aa hK
  have HBEL:=aa hbel
  clear hB hK hbel hst hrd hS x6 x7 x8
  refine wp_region_noPanic ?_
  refine wp_region_held_drew (S:=(fun w'=>w'.cell? ⟨w.heap.size+1,0,none⟩=some (.int .i64 (bI H b))∧(w'.cell? ⟨w.heap.size+2,0,none⟩=some (.bool (bK H b).e)∧w'.cell? ⟨w.heap.size+2,1,none⟩=some (.int .u64 (bK H b).d)∧w'.cell? ⟨w.heap.size+2,2,none⟩=some (.int .u8 (bK H b).l))∧w'.cell? ⟨w.heap.size+3,0,none⟩=some (.int .i64 (bA b))∧w'.cell? ⟨w.heap.size+4,0,none⟩=some (.bool b.isSome))) (by kernel_rfl) ?_ (fun hHeld=> ?_)
  ·exact⟨g1,⟨g2,g3,g4⟩,g5,g6⟩
  refine aE 0 (v:= ?_) rfl ?v0 ?_
  case v0=>(intro w hSw;(try dsimp only at hSw);go_simp;try with_reducible rfl)
  try simp only[ao]
  refine aE 1 (v:= ?_) rfl ?v1 ?_
  case v1=>(intro w hSw;(try dsimp only at hSw);go_simp;try with_reducible rfl)
  try simp only[ao]
  refine aE 2 (v:= ?_) rfl ?v2 ?_
  case v2=>(intro w hSw;(try dsimp only at hSw);go_simp;try with_reducible rfl)
  try simp only[ao]
  refine aE 3 (v:= ?_) rfl ?v3 ?_
  case v3=>(intro w hSw;(try dsimp only at hSw);go_simp;try with_reducible rfl)
  try simp only[ao]
  refine aZ 4 rfl (fun K hK=> ?_)
  go_simp
  have HC4:=aa (BC.s1 HCw.out (bI H b))
  have HR4:=aa (HRw.out.set (B:=w.heap.size+1) (off:=0) (by omega) (by omega) (.int .i64 (bI H b)))
  refine hK.out _ _ ?_ (fun hHeld=> ?_)
  ·exact⟨(BC.cells (BC.drew HC4.out)).2.1,(BC.cells (BC.drew HC4.out)).2.2.1,(BC.cells (BC.drew HC4.out)).2.2.2.1,(BC.cells (BC.drew HC4.out)).2.2.2.2.1⟩
  clear hK K
  try simp only[ao]
  refine aZ 5 rfl (fun K hK=> ?_)
  go_simp
  have HC5:=aa (BC.s2 HC4.out (bK H b))
  have HR5:=aa (((HR4.out.set (B:=w.heap.size+2) (off:=0) (by omega) (by omega) (.bool (bK H b).e)).set (B:=w.heap.size+2) (off:=1) (by omega) (by omega) (.int .u64 (bK H b).d)).set (B:=w.heap.size+2) (off:=2) (by omega) (by omega) (.int .u8 (bK H b).l))
  refine hK.out _ _ ?_ (fun hHeld=> ?_)
  ·exact⟨(BC.cells (BC.drew HC5.out)).2.1,(BC.cells (BC.drew HC5.out)).2.2.1,(BC.cells (BC.drew HC5.out)).2.2.2.1,(BC.cells (BC.drew HC5.out)).2.2.2.2.1⟩
  clear hK K
  try simp only[ao]
  refine aZ 6 rfl (fun K hK=> ?_)
  go_simp
  have HC6:=aa (BC.s3 HC5.out (bA b))
  have HR6:=aa (HR5.out.set (B:=w.heap.size+3) (off:=0) (by omega) (by omega) (.int .i64 (bA b)))
  refine hK.out _ _ ?_ (fun hHeld=> ?_)
  ·exact⟨(BC.cells (BC.drew HC6.out)).2.1,(BC.cells (BC.drew HC6.out)).2.2.1,(BC.cells (BC.drew HC6.out)).2.2.2.1,(BC.cells (BC.drew HC6.out)).2.2.2.2.1⟩
  clear hK K
  try simp only[ao]
  refine aZ 7 rfl (fun K hK=> ?_)
  go_simp
  have HC7:=aa (BC.s4 HC6.out b.isSome)
  have HR7:=aa (HR6.out.set (B:=w.heap.size+4) (off:=0) (by omega) (by omega) (.bool b.isSome))
  refine hK.out _ _ ?_ (fun hHeld=> ?_)
  ·exact⟨(BC.cells (BC.drew HC7.out)).2.1,(BC.cells (BC.drew HC7.out)).2.2.1,(BC.cells (BC.drew HC7.out)).2.2.2.1,(BC.cells (BC.drew HC7.out)).2.2.2.2.1⟩
  clear hK K
  try simp only[ao]
  refine wpAnyH_done (by kernel_rfl) ?_ _
  skip
  have HBC:=aa (BC.drew HC7.out)
  have HRW:=aa HR7.out.drew
  have hK:=HRW.out.ko.same D _ HK.out rfl
  clear g1 g2 g3 g4 g5 g6 q1 q2 q3 q4 q5 q6 HC4 HC5 HC6 HC7 HR4 HR5 HR6 HR7 HCw HRw hHeld HK
  generalize ((((((W.setCell ⟨w.heap.size+1,0,none⟩ (.int .i64 (bI H b))).setCell ⟨w.heap.size+2,0,none⟩ (.bool (bK H b).e)).setCell ⟨w.heap.size+2,1,none⟩ (.int .u64 (bK H b).d)).setCell ⟨w.heap.size+2,2,none⟩ (.int .u8 (bK H b).l)).setCell ⟨w.heap.size+3,0,none⟩ (.int .i64 (bA b))).setCell ⟨w.heap.size+4,0,none⟩ (.bool b.isSome)).drew=Wc at*
  have hDn:w.heap.size+9≤D:=by omega
  have hP:=BC.kept HBC.out (grownBy_putObj' Wc D (.deferred none)) (fun r e=>by cases e;exact⟨_,hK,rfl⟩)
  obtain⟨_,g1,⟨g2,g3,g4⟩,g5,g6,_⟩:=BC.cells hP
  simp only[NoPanic]
  go_wp2
  gi_wp2
  try simp only[Exit.noGoto]
  refine⟨by simp,.inl ⟨_,_,rfl,run_takeDeferred hK,?_⟩⟩
  refine⟨_,?_,rfl,?_⟩
  ·simp[results,Tryz.f100,go_sem,g1,g2,g3,g4,g5,g6,HBE.out]
  ·exact(HBEL.out.trans HRW.out.be).trans (belowK_b (w:=w) (Nat.le_refl _) Wc D _ _ (by omega) hK rfl rfl)
theorem pZ (h:fR w base lo pb mb n np q (.slice (some ⟨g,0,none⟩) (np+1) cap) H) (p d:Nat) (hp:p<np) (hd:d<18446744073709551616):
  Calls Tryz.prog 100 #[.pointer (some ⟨pb,0,none⟩),.int .i64 (p:Int),.int .u64 (d:Int)] w fun e w'=>e= .returned (.tuple #[.int .i64 (bI H (iA H (di np p d))),.agg #[.bool (bK H (iA H (di np p d))).e,.int .u64 (bK H (iA H (di np p d))).d,.int .u8 (bK H (iA H (di np p d))).l],.int .i64 (bA (iA H (di np p d))),.bool (iA H (di np p d)).isSome])∧Below w.heap.size w w':=
 callsIn_wide.1 (xF h p d hp hd)
end
end Go.Proofs.YtdbailcdlngemaaGreatDoor
namespace Go.Proofs.YtdbailcdlngemaaGreatDoor
open Go.RowKit Go.Lib
attribute [local go_sem ↓] Go.wp_at_zero Go.wp_at_succ
theorem lW: ∀{H:List Hd},(∀(i:Nat) (x:Hd),H[i]? =some x→x.M=[])→cS H=0
 |[],_=>rfl
 |h::H,hh=>by
  have h1:=hh 0 h rfl
  have:=lW (H:=H) (fun i x hx=>hh (i+1) x (by simpa using hx))
  simp only[cS,List.map_cons,List.sum_cons,h1,List.length_nil] at this⊢
  omega
theorem rR.GX {w0 w:World} {n np q:Nat} {v:Value} {H:List Hd} (h:rR w0 w n (jV np n q) v H) (hl:H.length=np+1) (h1:1≤n∧n≤1024) (h2:1≤np∧np≤64) (h3:1≤q∧q≤256):cw w (w0.heap.size+2) (w0.heap.size+2) (w0.heap.size+1) w0.heap.size n np q v 0 H:=by
 have hM: ∀(i:Nat) (x:Hd),H[i]? =some x→x.M=[]:=fun i x hx=>(h.fresh i x hx).1
 have hvb:=Dc.mD h.row
 have hw:aN n H 0=fun _=>none:=funext fun id=>fo n id H 0 (fun i x hx _=>by rw[hM i x hx];rfl)
 refine⟨⟨h1,h2,h3,h.blk,h.row,hl,h.sets,?_,fun i x hx k hk=>⟨h.sep i x hx k hk,?_,?_⟩,⟨by omega,fun e=> ?_,fun e=> ?_⟩⟩,fun i j x y id hx hy h5 h6=> ?_,fun i x hx=>by rw[(h.fresh i x hx).2];exact Nat.le_refl _⟩
 ·rw[hw,lW hM];exact h.map
 ·have:=h.sets.low i x hx k hk;omega
 ·have:=h.sets.low i x hx k hk;omega
 ·have:=(hvb _ e).1;omega
 ·have:=(hvb _ e).1;omega
 ·rw[hM i x hx] at h5;cases h5
section
variable {w w' wa wb:World} {base lo pb mb n np q T g cap:Nat} {v:Value} {H:List Hd}
theorem xC (h:cw w base lo pb mb n np q v T H) {i:Nat} {x:Hd} (hx:H[i]? =some x) {id:Nat} (hk:(keyOf x.M id).isSome=true) (hw:aN n H 0 (id:Int)=some (i:Int)) {t:Nat} (ht:t≤x.turn+1)
  (hy:(x.to t (cut id x.M)).is wa n (jV np n q i)) (hf:Fr x.own w wa) (hg:wa.grownBy wb (some mb)) (hm:ij wb mb (gM (aN n H 0) (id:Int) none) (if (aN n H 0 (id:Int)).isSome then cS H-1 else cS H)):
  cw wb base lo pb mb n np q v (T+1) (H.set i (x.to t (cut id x.M)))∧Fr (fun k=>k=mb∨x.own k) w wb:=by
 obtain⟨u1,u2⟩:=nW (n:=n) (y:=x.to t (cut id x.M)) h.un hx rfl hk
 refine h.gU hx ht hf hy ⟨hg.os,hg.tape,hg.output,hg.size,fun j hj hn=>hg.block j hj (fun e=>hn (Option.some.inj e))⟩ u1 ?_
 rw[u2]
 have hs:=dX (y:=x.to t (cut id x.M)) hx
 obtain⟨k,hkk⟩:=Option.isSome_iff_exists.1 hk
 have hc:=jE (cT.nd (h.p.sets.it i x hx)) ((dM (cT.nd (h.p.sets.it i x hx))).1 hkk)
 have e:cS (H.set i (x.to t (cut id x.M)))=cS H-1:=by
  have:(x.to t (cut id x.M)).M.length=(cut id x.M).length:=rfl
  omega
 rw[e]
 rw[hw] at hm
 exact hm
theorem r4 (h:cw w base lo pb mb n np q v T H) (id:Nat) (hi:id<n) {i:Nat} {x:Hd} (hx:H[i]? =some x) (hk:(keyOf x.M id).isSome=true):
  Calls Tryz.prog 138 #[.pointer (some ⟨pb,0,none⟩),.int .i64 (id:Int)] w fun e w'=>e= .returned (.int .i64 0)∧ ∃t,cw w' base lo pb mb n np q v (T+1) (H.set i (x.to t (cut id x.M)))∧Fr (fun k=>k=mb∨x.own k) w w':=by
 have hn1:=h.p.n1
 have hw:=lh n H h.un i x hx id hi hk
 have wfi:=ji (i:=id) (by omega)
 have HSET:=aa (uK h.p (id:Int) wfi i x hx hw)
 have HDONE:=aa (fun t ht wa wb a b c d=>xC (wa:=wa) (wb:=wb) (t:=t) h hx hk hw ht a b c d)
 have hrc:xk n x.M (id:Int)=0:=by unfold xk;rw[if_neg (by omega),if_pos (by simpa using hk)]
 have hrl:Av n x.M (id:Int)=cut id x.M:=by unfold Av;rw[if_pos hrc];rfl
 have hsep:=h.p.sep i x hx
 have HREM:Hid (Calls Tryz.prog 157 #[.pointer (some ⟨x.sb,0,none⟩),.int .i64 (id:Int)] w fun e w'=>e= .returned (.int .i64 0)∧(∃t,t≤x.turn+1∧(x.to t (cut id x.M)).is w' n (jV np n q i))∧Fr x.own w w'∧w'.cell? ⟨pb,1,none⟩=some (.map (some mb))∧ij w' mb (aN n H 0) (cS H)):=by
  refine(pY (h.p.sets.it i x hx) (id:Int)).mono ?_
  rintro e w1 ⟨rfl,⟨t,ht,hs⟩,hf⟩
  rw[hrl] at hs
  have hf':Fr x.own w w1:=hf
  exact⟨by rw[hrc],⟨t,ht,hs⟩,hf',(hf'.cell (a:=⟨pb,1,none⟩) h.p.Dx (fun q=>(hsep pb q).2.1 rfl)).trans h.p.c1,h.p.map.block (hf'.block _ h.p.map.lt (fun q=>(hsep mb q).2.2 rfl))⟩
 clear h hw hx hk hrc hrl hsep
 go_enter Tryz.func138,Tryz.ntmps138
 go_wp2_with (first
  |(go_at_call 117;refine(HSET.out).mono ?_;rintro e w1 ⟨rfl,hw1⟩;replace hw1:=hw1.symm;subst hw1)
  |(go_at_call 157;refine(HREM.out).mono ?_;rintro e w2 ⟨rfl,⟨t,ht,hy2⟩,hf2,c21,hm2⟩;have HY2:=aa hy2;have HF2:=aa hf2;have HM2:=aa hm2;have HT:=aa ht;clear hy2 hf2 hm2 ht)
  |(at_delete;refine lu rfl _ _ rfl (by exact HM2.out) (id:Int) wfi rfl rfl ?_;intro w3 hm3 hg3;have HD:=aa (HDONE.out t HT.out _ _ HY2.out HF2.out (by exact hg3) hm3);clear hm3 hg3))
 go_ret
 exact⟨rfl,t,HD.out⟩
end
section
variable {w w' wa wb:World} {base lo pb mb n np q T g cap:Nat} {v:Value} {H:List Hd}
theorem cw.frame {S:Nat→Prop} (h:cw w base lo pb mb n np q v T H) (hf:Fr S w w') (hn: ∀k,jD pb mb v H k→ ¬S k):cw w' base lo pb mb n np q v T H:=⟨h.p.frame hf hn,h.un,h.tn⟩
def ja (W:World) (B:Nat) (k:Ke.K):World:=((W.setCell ⟨B,0,none⟩ (.bool k.e)).setCell ⟨B,1,none⟩ (.int .u64 k.d)).setCell ⟨B,2,none⟩ (.int .u8 k.l)
theorem lH (W:World) (B:Nat) (k:Ke.K):Fr (fun j=>j=B) W (ja W B k):=(((Fr.refl (fun j=>j=B) W).setCell (a:=⟨B,0,none⟩) rfl _).setCell (a:=⟨B,1,none⟩) rfl _).setCell (a:=⟨B,2,none⟩) rfl _
theorem jF {W:World} {B:Nat} {k0 k1:Ke.K} (h:W.heap[B]? =some (.cells #[.bool k0.e,.int .u64 k0.d,.int .u8 k0.l] 130 (0,0))):(ja W B k1).heap[B]? =some (.cells #[.bool k1.e,.int .u64 k1.d,.int .u8 k1.l] 130 (0,0)):=
 Go.Joins.block_setCell (Go.Joins.block_setCell (Go.Joins.block_setCell h _) _) _
theorem tD {i:Nat} {x:Hd} (hx:H[i]? =some x) (t:Nat) (M:List En) (k:Nat) (h:jD pb mb v (H.set i (x.to t M)) k):jD pb mb v H k:=by
 have hil:i<H.length:=(List.getElem?_eq_some_iff.1 hx).1
 rcases h with e|e|e|⟨j,z,hz,hk⟩
 ·exact .inl e
 ·exact .inr (.inl e)
 ·exact .inr (.inr (.inl e))
 ·rcases dm hil hz with ⟨rfl,rfl⟩|⟨_,r⟩
  ·exact .inr (.inr (.inr ⟨j,x,hx,hk⟩))
  ·exact .inr (.inr (.inr ⟨j,z,r,hk⟩))
theorem xW (h:cw w base lo pb mb n np q (.slice (some ⟨g,0,none⟩) (np+1) cap) T H) (p d:Nat) (hp:p<np) (hd:d<18446744073709551616) {c:Nat} {x:Hd} {z:En} {M':List En} (hb:iA H (di np p d)=some c) (hx:H[c]? =some x) (hM:x.M=z::M'):
  Calls Tryz.prog 104 #[.pointer (some ⟨pb,0,none⟩),.int .i64 (p:Int),.int .u64 (d:Int)] w fun e w'=>e= .returned (.tuple #[.int .i64 (z.1:Int),.agg #[.bool z.2.e,.int .u64 z.2.d,.int .u8 z.2.l],.int .i64 (c:Int),.bool true])∧ ∃t,cw w' base lo pb mb n np q (.slice (some ⟨g,0,none⟩) (np+1) cap) (T+1) (H.set c (x.to t M'))∧Fr (fun k=>k=mb∨x.own k) w w':=by
 have hbl:=h.p.blocks
 have hbB:Below w.heap.size w (w.alloc (.cells #[.bool false,.int .u64 0,.int .u8 0] 130)):=(Below.refl _ _).alloc (Nat.le_refl _) _
 have hcut:cut z.1 x.M=M':=by rw[hM];exact mQ (by rw[←hM];exact cT.nd (h.p.sets.it c x hx))
 have hzk:(keyOf x.M z.1).isSome=true:=by rw[gZ];exact⟨z,by rw[hM];simp,rfl⟩
 have hzn:z.1<n:=by
  obtain⟨R,L,hS,hI⟩:=gD (h.p.sets.it c x hx)
  exact hI.jj hS z (by rw[hM];simp)
 have HBEST:=aa (pZ (h.p.below hbB) p d hp hd)
 rw[hb] at HBEST
 have e1:bI H (some c)=(z.1:Int):=by show rL (MM H c)=_;rw[cm hx,hM];rfl
 have e2:bK H (some c)=z.2:=by show gF (MM H c)=_;rw[cm hx,hM];rfl
 have e3:bA (some c)=(c:Int):=rfl
 rw[e1,e2,e3] at HBEST
 simp only[Option.isSome_some] at HBEST
 have HK:Hid (∀W,Below (w.alloc (.cells #[.bool false,.int .u64 0,.int .u8 0] 130)).heap.size (w.alloc (.cells #[.bool false,.int .u64 0,.int .u8 0] 130)) W→
   (∀j,W.frozen? ⟨w.heap.size,j,none⟩=false)∧W.cell? ⟨w.heap.size,0,none⟩=some (.bool false)∧W.cell? ⟨w.heap.size,1,none⟩=some (.int .u64 0)∧W.cell? ⟨w.heap.size,2,none⟩=some (.int .u8 0)∧(ja W w.heap.size z.2).heap[w.heap.size]? =some (.cells #[.bool z.2.e,.int .u64 z.2.d,.int .u8 z.2.l] 130 (0,0))∧
   cw (ja W w.heap.size z.2) base lo pb mb n np q (.slice (some ⟨g,0,none⟩) (np+1) cap) T H∧Below w.heap.size w (ja W w.heap.size z.2)):=fun W hW=>by
  have hblk:W.heap[w.heap.size]? =some (.cells #[.bool false,.int .u64 0,.int .u8 0] 130 (0,0)):=(hW.block _ (by simp)).trans (World.alloc_heap_new w _)
  have hbw:Below w.heap.size w W:=hbB.trans (hW.mono hbB.size)
  have hfk:=lH W w.heap.size z.2
  refine⟨fun j=>(an hblk j).2,(an hblk 0).1,(an hblk 1).1,(an hblk 2).1,jF (k0:=⟨false,0,0⟩) hblk,(h.below hbw).frame hfk (fun k hk e=> ?_),hbw.trans (hfk.below hbw.size (fun k e=>by omega))⟩
  have:=hbl k hk
  omega
 have HREM:Hid (∀W,cw W base lo pb mb n np q (.slice (some ⟨g,0,none⟩) (np+1) cap) T H→Calls Tryz.prog 138 #[.pointer (some ⟨pb,0,none⟩),.int .i64 (z.1:Int)] W fun e w'=>e= .returned (.int .i64 0)∧ ∃t,cw w' base lo pb mb n np q (.slice (some ⟨g,0,none⟩) (np+1) cap) (T+1) (H.set c (x.to t M'))∧Fr (fun k=>k=mb∨x.own k) W w'):=fun W hW=>by
  have:=r4 hW z.1 hzn hx hzk
  rw[hcut] at this
  exact this
 have HOWN:Hid (∀t k,jD pb mb (.slice (some ⟨g,0,none⟩) (np+1) cap) (H.set c (x.to t M')) k→k<w.heap.size):=fun t k hk=>hbl k (tD hx t M' k hk)
 have HNB:Hid (¬(w.heap.size=mb∨x.own w.heap.size)):=by
  rintro(e|e)
  ·have:=h.p.map.lt;omega
  ·have:=(h.p.sets.it c x hx).blocks _ e;omega
 clear h hbl hbB hcut hzk hzn hb e1 e2 e3 hM hx
 go_enter Tryz.func104,Tryz.ntmps104
 go_wp2_with (first
  |(go_at_call 100;refine(HBEST.out).mono ?_;rintro e w1 ⟨rfl,hb1⟩;obtain⟨f1,k0,k1,k2,hblk,hQ1,hB1⟩:=HK.out w1 hb1;have f10:=f1 0;have f11:=f1 1;have f12:=f1 2;have HBLK:=aa hblk;have HQ1:=aa hQ1;have HB1:=aa hB1;clear f1 hblk hQ1 hB1 hb1)
  |(go_at_call 138;refine(HREM.out _ (by exact HQ1.out)).mono ?_;rintro e w2 ⟨rfl,t,hQ2,hF2⟩;have HBLK2:=aa ((hF2.block _ (Array.getElem?_eq_some_iff.1 HBLK.out).1 HNB.out).trans HBLK.out);have HQ2:=aa hQ2;have HF2:=aa hF2;have k20:=(an HBLK2.out 0).1;have k21:=(an HBLK2.out 1).1;have k22:=(an HBLK2.out 2).1;have f20:=(an HBLK2.out 0).2;have f21:=(an HBLK2.out 1).2;have f22:=(an HBLK2.out 2).2;clear hQ2 hF2))
 have HB3:=aa (jF (k1:=z.2) HBLK2.out)
 simp only[List.getElem?_toArray,List.getElem?_cons_zero,List.getElem?_cons_succ] at k20 k21 k22
 refine wp_region_noPanic ?_
 refine wp_region_held_drew (S:=(fun w'=>w'.cell? ⟨w.heap.size,0,none⟩=some (.bool z.2.e)∧w'.cell? ⟨w.heap.size,1,none⟩=some (.int .u64 z.2.d)∧w'.cell? ⟨w.heap.size,2,none⟩=some (.int .u8 z.2.l))) (by kernel_rfl) ?_ (fun hHeld=> ?_)
 ·exact⟨k20,k21,k22⟩
 refine aE 0 (v:= ?_) rfl ?v0 ?_
 case v0=>(intro w hSw;(try dsimp only at hSw);go_simp;try with_reducible rfl)
 try simp only[ao]
 refine aE 1 (v:= ?_) rfl ?v1 ?_
 case v1=>(intro w hSw;(try dsimp only at hSw);go_simp;try with_reducible rfl)
 try simp only[ao]
 refine aE 2 (v:= ?_) rfl ?v2 ?_
 case v2=>(intro w hSw;(try dsimp only at hSw);go_simp;try with_reducible rfl)
 try simp only[ao]
 refine aE 3 (v:= ?_) rfl ?v3 ?_
 case v3=>(intro w hSw;(try dsimp only at hSw);go_simp;try with_reducible rfl)
 try simp only[ao]
 refine aE 4 (v:= ?_) rfl ?v4 ?_
 case v4=>(intro w hSw;(try dsimp only at hSw);go_simp;try with_reducible rfl)
 try simp only[ao]
 refine aZ 5 rfl (fun K hK=> ?_)
 go_simp
 refine hK.out _ _ ?_ (fun hHeld=> ?_)
 ·exact⟨(an (aB HB3.out) 0).1,(an (aB HB3.out) 1).1,(an (aB HB3.out) 2).1⟩
 clear hK K
 try simp only[ao]
 refine aE 6 (v:= ?_) rfl ?v6 ?_
 case v6=>(intro w hSw;(try dsimp only at hSw);go_simp;try with_reducible rfl)
 try simp only[ao]
 refine aE 7 (v:= ?_) rfl ?v7 ?_
 case v7=>(intro w hSw;(try dsimp only at hSw);go_simp;try with_reducible rfl)
 try simp only[ao]
 refine wpAnyH_done (by kernel_rfl) ?_ _
 simp only[NoPanic]
 have HW3:=aa (lH w2 w.heap.size z.2)
 have HB4:=aa (aB HB3.out)
 have HF4:Hid (Fr (fun j=>j=w.heap.size) w2 (ja w2 w.heap.size z.2).drew):=⟨HW3.out.os,HW3.out.tape,HW3.out.output,HW3.out.size,HW3.out.block⟩
 clear HB3 HW3 k20 k21 k22 f20 f21 f22 hHeld
 have hkk:(((w2.setCell ⟨w.heap.size,0,none⟩ (.bool z.2.e)).setCell ⟨w.heap.size,1,none⟩ (.int .u64 z.2.d)).setCell ⟨w.heap.size,2,none⟩ (.int .u8 z.2.l)).drew=(ja w2 w.heap.size z.2).drew:=rfl
 rw[hkk]
 generalize (ja w2 w.heap.size z.2).drew=W4 at*
 have g0:=(an HB4.out 0).1
 have g1:=(an HB4.out 1).1
 have g2:=(an HB4.out 2).1
 simp at g0 g1 g2
 go_wp2
 refine bodyPost_ret (v:= .tuple #[.int .i64 (z.1:Int),.agg #[.bool z.2.e,.int .u64 z.2.d,.int .u8 z.2.l],.int .i64 (c:Int),.bool true]) ?_ rfl ?_
 ·simp[results,Tryz.f104,go_sem,g0,g1,g2]
 refine⟨rfl,t,HQ2.out.frame HF4.out (fun k hk e=> ?_),?_⟩
 ·have:=HOWN.out t k hk;omega
 ·have hA:Fr (fun k=>k=mb∨x.own k) w w2:=(Fr.aC HB1.out).trans HF2.out
  exact⟨HF4.out.os.trans hA.os,HF4.out.tape.trans hA.tape,HF4.out.output.trans hA.output,Nat.le_trans hA.size HF4.out.size,fun k hk hn=>(HF4.out.block k (Nat.lt_of_lt_of_le hk hA.size) (fun e=>by omega)).trans (hA.block k hk hn)⟩
end
end Go.Proofs.YtdbailcdlngemaaGreatDoor
namespace Go.Proofs.YtdbailcdlngemaaGreatDoor
open Go.RowKit Go.Shelf
attribute [local go_sem] Oper.semAt_some
theorem wY (w:World) (a:Option Addr) (p d:Int) (hh: ∀W,Below w.heap.size w W→Calls Tryz.prog 133 #[.pointer a,.int .i64 p] W fun e w'=>e= .returned (.bool false)∧w'=W):
  Calls Tryz.prog 100 #[.pointer a,.int .i64 p,.int .u64 d] w fun e w'=>e= .returned (.tuple #[.int .i64 0,.agg #[.bool false,.int .u64 0,.int .u8 0],.int .i64 0,.bool false])∧Below w.heap.size w w':=by
 refine(callsIn_wide (n:=6)).1 ?_
 have HHAS:=aa (fun W hW=>(callsIn_wide (n:=5)).2 (hh W hW))
 clear hh
 refine callsIn_of_wp_marks Tryz.func100 rfl trivial ?_ rfl
 simp only[Tryz.ntmps100,List.size_toArray,List.length_cons,List.length_nil,Nat.reduceAdd,Nat.reduceSub,Array.replicate_succ,Array.replicate_zero,List.push_toArray,List.append_toArray,List.nil_append,List.cons_append]
 have hB5:Below w.heap.size w (((((w.alloc (.cells #[.pointer a] 88)).alloc (.cells #[.int .i64 0] 3)).alloc (.cells #[.bool false,.int .u64 0,.int .u8 0] 130)).alloc (.cells #[.int .i64 0] 3)).alloc (.cells #[.bool false] 4)):=(((((Below.refl _ w).alloc (Nat.le_refl _) _).alloc (by simp) _).alloc (by simp;omega) _).alloc (by simp;omega) _).alloc (by simp;omega) _
 have HB5:=aa hB5
 clear hB5
 gi_wp2
 refine wpIn_wide.2 (wp_scope_straight ((wpIn_wide (n:=6)).1 ?_))
 gi_wp2_with (first
  |(refine⟨trivial,?_⟩;gi_at_call 133;refine(HHAS.out _ HB5.out).mono ?_;rintro e w1 ⟨rfl,hw1⟩;replace hw1:=hw1.symm;subst hw1))
 try simp only[Exit.noGoto]
 refine⟨_,?_,rfl,HB5.out⟩
 simp[results,Tryz.f100,go_sem]
end Go.Proofs.YtdbailcdlngemaaGreatDoor
namespace Go.Proofs.YtdbailcdlngemaaGreatDoor
open Go.RowKit Go.Lib
attribute [local go_sem ↓] Go.wp_at_zero Go.wp_at_succ
def Ms (H:List Hd):List (List En):=H.map (·.M)
theorem rY (H:List Hd):(Ms H).length=H.length:=by simp[Ms]
theorem oD {H:List Hd} {i:Nat} {x:Hd} (h:H[i]? =some x):(Ms H)[i]? =some x.M:=by simp[Ms,h]
theorem Ew (H:List Hd) (i:Nat) (y:Hd):Ms (H.set i y)=(Ms H).set i y.M:=by simp[Ms,List.map_set]
section
variable {H X:List Hd}
theorem EY (e:Ms H=Ms X) {i:Nat} {x y:Hd} (hx:H[i]? =some x) (hy:X[i]? =some y):x.M=y.M:=by
 have h1:=oD hx
 have h2:=oD hy
 rw[e,h2] at h1
 injection h1 with h1
 exact h1.symm
theorem CL (e:Ms H=Ms X) {i:Nat} {x:Hd} (hx:H[i]? =some x): ∃y,X[i]? =some y∧y.M=x.M:=by
 have h1:=oD hx
 rw[e] at h1
 simp only[Ms,List.getElem?_map] at h1
 cases hy:X[i]? with
 |none=>rw[hy] at h1;cases h1
 |some y=>rw[hy] at h1;exact⟨y,rfl,by simpa using h1⟩
theorem CZ (H:List Hd) (x:Nat):MM H x=((Ms H)[x]?).getD []:=by
 unfold MM Ms
 rw[List.getElem?_map]
 cases H[x]? <;>rfl
theorem mV (e:Ms H=Ms X):MM H=MM X:=funext fun x=>by rw[CZ,CZ,e]
theorem zR (e:Ms H=Ms X):cF H=cF X:=by
 funext b x
 unfold cF
 rw[mV e]
theorem D7 (e:Ms H=Ms X) (l:List Nat):iA H l=iA X l:=by unfold iA;rw[zR e]
theorem CO (e:Ms H=Ms X) (o:Option Nat):bI H o=bI X o:=by cases o<;>simp[bI,mV e]
theorem CV (e:Ms H=Ms X) (o:Option Nat):bK H o=bK X o:=by cases o<;>simp[bK,mV e]
theorem Dz (e:Ms H=Ms X):H.length=X.length:=by rw[←rY,←rY,e]
theorem ku (e:Ms H=Ms X) (n:Nat) (k id:Int):aN n H k id=aN n X k id:=
 dB n id H X k (Dz e) (fun i x x' hx hx' _=>by rw[EY e hx hx'])
theorem Fe (e:Ms H=Ms X) (h:Un H):Un X:=fun i j x y id hx hy h1 h2=>by
 obtain⟨x',hx',ex⟩:=CL e.symm hx
 obtain⟨y',hy',ey⟩:=CL e.symm hy
 exact h i j x' y' id hx' hy' (by rw[ex];exact h1) (by rw[ey];exact h2)
end
def j6 (np n q:Nat) (H:List Hd) (p:Nat):Nat:=if (MM H p).length<min q n then p else np
def jG (np n:Nat) (H:List Hd) (p id:Int) (k:Ke.K):Int:=if (p<0∨(np:Int)≤p)∨nH n id k then 2 else if (aN n H 0 id).isSome then 5 else 0
def fG (np n q:Nat) (H:List Hd) (p id:Int) (k:Ke.K):List (List En):=if jG np n H p id k=0 then(Ms H).set (j6 np n q H p.toNat) (put (id.toNat,k) (MM H (j6 np n q H p.toNat))) else Ms H
def gC (n:Nat) (H:List Hd) (id:Int) (k:Ke.K):Int:=if nH n id k then 2 else if (aN n H 0 id).isSome then 0 else 6
def BL (n:Nat) (H:List Hd) (id:Int):Nat:=((aN n H 0 id).getD 0).toNat
def dU (n:Nat) (H:List Hd) (id:Int) (k:Ke.K):List (List En):=if gC n H id k=0 then(Ms H).set (BL n H id) (fI n (MM H (BL n H id)) id k) else Ms H
def bb (np:Nat) (H:List Hd) (p d:Int):Option Nat:=if 0≤p∧p<(np:Int) then iA H (di np p.toNat d.toNat) else none
def gW (np:Nat) (H:List Hd) (p d:Int):List (List En):=match bb np H p d with
 |none=>Ms H
 |some c=>(Ms H).set c (MM H c).tail
section
variable {w w' wa wb:World} {base lo pb mb n np q T g cap:Nat} {v:Value} {H:List Hd}
theorem cw.more (h:cw w base lo pb mb n np q v T H) {T':Nat} (ht:T≤T'):cw w base lo pb mb n np q v T' H:=⟨h.p,h.un,fun i x hx=>Nat.le_trans (h.tn i x hx) ht⟩
def Leaves (w w':World) (base lo pb mb n np q:Nat) (v:Value) (T:Nat) (H:List Hd) (G:List (List En)):Prop:=
 (∃H',cw w' base lo pb mb n np q v (T+1) H'∧Ms H'=G∧ ∀k,jD pb mb v H' k↔jD pb mb v H k)∧Fr (jD pb mb v H) w w'
theorem Leaves.same (h:cw w base lo pb mb n np q v T H) (hb:Below w.heap.size w w'):Leaves w w' base lo pb mb n np q v T H (Ms H):=
 ⟨⟨H,(h.below hb).more (by omega),rfl,fun _=>Iff.rfl⟩,Fr.aC hb⟩
theorem yB {i:Nat} {x:Hd} (hx:H[i]? =some x) (t:Nat) (M:List En) (k:Nat):jD pb mb v (H.set i (x.to t M)) k↔jD pb mb v H k:=by
 refine⟨tD hx t M k,?_⟩
 have hil:i<H.length:=(List.getElem?_eq_some_iff.1 hx).1
 rintro(e|e|e|⟨j,z,hz,hk⟩)
 ·exact .inl e
 ·exact .inr (.inl e)
 ·exact .inr (.inr (.inl e))
 ·by_cases hj:j=i
  ·subst hj
   rw[hx] at hz
   injection hz with hz
   subst hz
   exact .inr (.inr (.inr ⟨j,x.to t M,List.getElem?_set_self hil,hk⟩))
  ·exact .inr (.inr (.inr ⟨j,z,by rw[List.getElem?_set_ne (fun e=>hj e.symm)];exact hz,hk⟩))
theorem Leaves.put (h:cw w base lo pb mb n np q v T H) {i:Nat} {x:Hd} (hx:H[i]? =some x) {t:Nat} {M:List En} (hq:cw w' base lo pb mb n np q v (T+1) (H.set i (x.to t M))) (hf:Fr (fun k=>k=mb∨x.own k) w w') {G:List (List En)} (hG:G=(Ms H).set i M):Leaves w w' base lo pb mb n np q v T H G:=by
 refine⟨⟨_,hq,?_,yB hx t M⟩,hf.wide ?_⟩
 ·rw[Ew,hG];rfl
 ·rintro k _ (e|e)
  ·exact .inr (.inl e)
  ·exact .inr (.inr (.inr ⟨i,x,hx,e⟩))
theorem AL (h:cw w base lo pb mb n np q v T H) (p id:Int) (k:Ke.K) (hno:(p<0∨(np:Int)≤p)∨nH n id k):
  Calls Tryz.prog 132 #[.pointer (some ⟨pb,0,none⟩),.int .i64 p,.int .i64 id,.agg #[.bool k.e,.int .u64 k.d,.int .u8 k.l]] w fun e w'=>e= .returned (.int .i64 2)∧Below w.heap.size w w':=by
 have HX:=aa (jw h k)
 have hA0:Below (w.heap.size+1) (w.alloc (.cells #[.bool k.e,.int .u64 k.d,.int .u8 k.l] 130)) (w.alloc (.cells #[.bool k.e,.int .u64 k.d,.int .u8 k.l] 130)):=Below.refl _ _
 obtain⟨hQ0,_,hz0,hw0⟩:=jw h k _ hA0
 have HW0:=aa hw0
 have HHAS:=aa (pd hQ0.p p)
 have HR:=aa (fun W=>Ke.cY W k)
 have c2:=hQ0.p.c2
 have hcs:decide (0≤p∧p<(np:Int))=false∨(decide (0≤p∧p<(np:Int))=true∧id<0)∨(decide (0≤p∧p<(np:Int))=true∧ ¬id<0∧(n:Int)≤id)∨(decide (0≤p∧p<(np:Int))=true∧ ¬id<0∧ ¬(n:Int)≤id∧Ke.aJ k=false):=by
  by_cases q0:0≤p∧p<(np:Int)
  ·right
   rw[decide_eq_true q0]
   unfold nH at hno
   by_cases q1:id<0
   ·exact .inl ⟨rfl,q1⟩
   ·by_cases q2:(n:Int)≤id
    ·exact .inr (.inl ⟨rfl,q1,q2⟩)
    ·rcases hno with q|q|q|q
     ·omega
     ·exact absurd q q1
     ·exact absurd q q2
     ·exact .inr (.inr ⟨rfl,q1,q2,q⟩)
  ·left
   exact decide_eq_false q0
 clear h hno hQ0 hA0
 generalize decide (0≤p∧p<(np:Int))=bh at*
 rcases hcs with rfl|⟨rfl,h1⟩|⟨rfl,h1,h2⟩|⟨rfl,h1,h2,h3⟩
 ·go_enter Tryz.func132,Tryz.ntmps132
  go_wp2_with (go_at_call 133;refine(HHAS.out).mono ?_;rintro e w1 ⟨rfl,hw1⟩;replace hw1:=hw1.symm;subst hw1)
  go_ret
  exact⟨rfl,HW0.out⟩
 ·go_enter Tryz.func132,Tryz.ntmps132
  go_wp2_with (go_at_call 133;refine(HHAS.out).mono ?_;rintro e w1 ⟨rfl,hw1⟩;replace hw1:=hw1.symm;subst hw1)
  go_ret
  exact⟨rfl,HW0.out⟩
 ·go_enter Tryz.func132,Tryz.ntmps132
  go_wp2_with (go_at_call 133;refine(HHAS.out).mono ?_;rintro e w1 ⟨rfl,hw1⟩;replace hw1:=hw1.symm;subst hw1)
  go_ret
  exact⟨rfl,HW0.out⟩
 ·rw[h3] at HR
  go_enter Tryz.func132,Tryz.ntmps132
  go_wp2_with (first
   |(go_at_call 133;refine(HHAS.out).mono ?_;rintro e w1 ⟨rfl,hw1⟩;replace hw1:=hw1.symm;subst hw1)
   |(go_at_call 112;refine(HR.out _).mono ?_;rintro e w2 ⟨rfl,hb2⟩;have HB2:=aa (HW0.out.trans (hb2.mono HW0.out.size));clear hb2))
  go_ret
  exact⟨rfl,HB2.out⟩
theorem rP (h:cw w base lo pb mb n np q v T H) (p:Nat) (hp:p<np) (id:Nat) (hi:id<n) (k:Ke.K) (hr:Ke.aJ k=true) (hw:(aN n H 0 (id:Int)).isSome=true):
  Calls Tryz.prog 132 #[.pointer (some ⟨pb,0,none⟩),.int .i64 (p:Int),.int .i64 (id:Int),.agg #[.bool k.e,.int .u64 k.d,.int .u8 k.l]] w fun e w'=>e= .returned (.int .i64 5)∧Below w.heap.size w w':=by
 have hn1:=h.p.n1
 have HX:=aa (jw h k)
 have hA0:Below (w.heap.size+1) (w.alloc (.cells #[.bool k.e,.int .u64 k.d,.int .u8 k.l] 130)) (w.alloc (.cells #[.bool k.e,.int .u64 k.d,.int .u8 k.l] 130)):=Below.refl _ _
 have HA:=aa hA0
 obtain⟨hQ0,_,hz0,hw0⟩:=jw h k _ hA0
 have HHAS:=aa (ue hQ0.p p hp)
 have HR:=aa (fun W=>by have:=Ke.cY W k;rw[hr] at this;exact this)
 have c2:=hQ0.p.c2
 have wfi:=ji (i:=id) (by omega)
 have i0: ¬(id:Int)<0:=by omega
 have i1: ¬(n:Int)≤(id:Int):=by omega
 have i2:(id:Int)<(n:Int):=by omega
 have HWS:=aa hw
 clear h hQ0 hA0 hw
 go_enter Tryz.func132,Tryz.ntmps132
 go_wp2_with (first
  |(go_at_call 133;refine(HHAS.out).mono ?_;rintro e w1 ⟨rfl,hw1⟩;replace hw1:=hw1.symm;subst hw1)
  |(go_at_call 112;refine(HR.out _).mono ?_;rintro e w2 ⟨rfl,hb2⟩;have HB2:=aa (HA.out.trans (hb2.mono hz0));obtain⟨hQ2,_,hz2,hbw⟩:=HX.out _ HB2.out;have HBW:=aa hbw;have hl2:=hQ2.p.map.look id wfi;rw[HWS.out] at hl2;generalize (aN n H 0 (id:Int)).getD 0=ci at hl2;have c21:=hQ2.p.c1;clear hQ2 hb2 hbw))
 go_ret
 exact⟨rfl,HBW.out⟩
theorem zs (h:cw w base lo pb mb n np q v T H) (hT:T≤1000000000) (p id:Int) (k:Ke.K) (hk:k.ok):
  Calls Tryz.prog 132 #[.pointer (some ⟨pb,0,none⟩),.int .i64 p,.int .i64 id,.agg #[.bool k.e,.int .u64 k.d,.int .u8 k.l]] w fun e w'=>e= .returned (.int .i64 (jG np n H p id k))∧Leaves w w' base lo pb mb n np q v T H (fG np n q H p id k):=by
 unfold fG jG
 by_cases hno:(p<0∨(np:Int)≤p)∨nH n id k
 ·rw[if_pos hno,if_neg (by decide)]
  refine(AL h p id k hno).mono ?_
  rintro e w' ⟨rfl,hb⟩
  exact⟨rfl,Leaves.same h hb⟩
 ·rw[if_neg hno]
  have hnb: ¬nH n id k:=fun q=>hno (.inr q)
  rcases j4 n [] id k with hb|⟨i,rfl,hi,hr,_⟩
  ·exact absurd hb hnb
  obtain⟨p,rfl⟩:=Int.eq_ofNat_of_zero_le (show 0≤p by omega)
  have hp:p<np:=by omega
  cases hw:aN n H 0 (i:Int) with
  |some c=>
   rw[if_pos (show(some c).isSome=true from rfl),if_neg (by decide)]
   refine(rP h p hp i hi k hr (by rw[hw];rfl)).mono ?_
   rintro e w' ⟨rfl,hb⟩
   exact⟨rfl,Leaves.same h hb⟩
  |none=>
   rw[if_neg (by simp),if_pos rfl]
   obtain⟨g,cap,rfl,_⟩:=h.p.rows
   obtain⟨x,hx⟩:=h.p.at (i:=p) (by omega)
   obtain⟨y,hy⟩:=h.p.at (i:=np) (by omega)
   have hfit:=cT.fit (h.p.sets.it p x hx)
   have hmo:jV np n q p=min q n:=by unfold jV;rw[if_pos hp]
   rw[hmo] at hfit
   have e1:(p:Int).toNat=p:=rfl
   rw[e1]
   unfold j6
   rw[cm hx]
   by_cases hl:x.M.length<min q n
   ·rw[if_pos hl,cm hx]
    refine(wj h hT p hp hx i hi k hr hk hw (by rw[hmo];exact hl)).mono ?_
    rintro e w' ⟨rfl,hq,hf⟩
    exact⟨rfl,Leaves.put h hx hq hf rfl⟩
   ·rw[if_neg hl,cm hy]
    refine(wO h hT p hp hx hy i hi k hr hk hw (by rw[hmo];omega)).mono ?_
    rintro e w' ⟨rfl,hq,hf⟩
    exact⟨rfl,Leaves.put h hy hq hf rfl⟩
end
section
variable {w w' wa wb:World} {base lo pb mb n np q T g cap:Nat} {v:Value} {H:List Hd}
theorem mq (h:cw w base lo pb mb n np q v T H) (hT:T≤1000000000) (id:Int) (k:Ke.K) (hk:k.ok) {i:Nat} {x:Hd} (hx:H[i]? =some x)
  (hs: ∀W,fR W base lo pb mb n np q v H→Calls Tryz.prog 117 #[.pointer (some ⟨pb,0,none⟩),.int .i64 id] W fun e w'=>e= .returned (.pointer (some ⟨x.sb,0,none⟩))∧Below W.heap.size W w'):
  Calls Tryz.prog 84 #[.pointer (some ⟨pb,0,none⟩),.int .i64 id,.agg #[.bool k.e,.int .u64 k.d,.int .u8 k.l]] w fun e w'=>e= .returned (.int .i64 (jC n x.M id k))∧(∃t,t≤x.turn+1∧(x.to t (fI n x.M id k)).is w' n (jV np n q i))∧Fr x.own w w':=by
 have HX:=aa (jw h k)
 have hA0:Below (w.heap.size+1) (w.alloc (.cells #[.bool k.e,.int .u64 k.d,.int .u8 k.l] 130)) (w.alloc (.cells #[.bool k.e,.int .u64 k.d,.int .u8 k.l] 130)):=Below.refl _ _
 have HA:=aa hA0
 obtain⟨hQ0,⟨k0,k1,k2⟩,hz0,hw0⟩:=jw h k _ hA0
 have HSET:Hid (∀W,Below (w.heap.size+1) (w.alloc (.cells #[.bool k.e,.int .u64 k.d,.int .u8 k.l] 130)) W→Calls Tryz.prog 117 #[.pointer (some ⟨pb,0,none⟩),.int .i64 id] W fun e w'=>e= .returned (.pointer (some ⟨x.sb,0,none⟩))∧Below (w.heap.size+1) (w.alloc (.cells #[.bool k.e,.int .u64 k.d,.int .u8 k.l] 130)) w'):=fun W hW=>by
  obtain⟨hQ,_,hz,_⟩:=jw h k W hW
  refine(hs W hQ.p).mono ?_
  rintro e w' ⟨rfl,hb⟩
  exact⟨rfl,hW.trans (hb.mono hz)⟩
 have HCHG:Hid (∀W,Below (w.heap.size+1) (w.alloc (.cells #[.bool k.e,.int .u64 k.d,.int .u8 k.l] 130)) W→Calls Tryz.prog 118 #[.pointer (some ⟨x.sb,0,none⟩),.int .i64 id,.agg #[.bool k.e,.int .u64 k.d,.int .u8 k.l]] W fun e w'=>e= .returned (.int .i64 (jC n x.M id k))∧(w'.cell? ⟨w.heap.size,0,none⟩=some (.bool k.e)∧w'.cell? ⟨w.heap.size,1,none⟩=some (.int .u64 k.d)∧w'.cell? ⟨w.heap.size,2,none⟩=some (.int .u8 k.l))∧(∃t,t≤x.turn+1∧(x.to t (fI n x.M id k)).is w' n (jV np n q i))∧Fr x.own w w'):=fun W hW=>by
  obtain⟨hQ,⟨k0,k1,k2⟩,hz,hb⟩:=jw h k W hW
  have hbl:=(h.p.sets.it i x hx).blocks
  have nb: ¬x.own w.heap.size:=fun q=>by have:=hbl _ q;omega
  refine(rA (hQ.p.sets.it i x hx) (by have:=h.tn i x hx;omega) id k hk).mono ?_
  rintro e w1 ⟨rfl,ht,hf⟩
  have hf':Fr x.own W w1:=hf
  exact⟨rfl,⟨(hf'.cell (a:=⟨w.heap.size,0,none⟩) (by show w.heap.size<_;omega) nb).trans k0,(hf'.cell (a:=⟨w.heap.size,1,none⟩) (by show w.heap.size<_;omega) nb).trans k1,(hf'.cell (a:=⟨w.heap.size,2,none⟩) (by show w.heap.size<_;omega) nb).trans k2⟩,ht,(Fr.aC hb).trans hf'⟩
 generalize jC n x.M id k=cc at*
 clear h hQ0 hA0 hs hx hw0
 go_enter Tryz.func84,Tryz.ntmps84
 go_wp2
 go_region_held3 (fun w'=>w'.cell? ⟨w.heap.size,0,none⟩=some (.bool k.e)∧w'.cell? ⟨w.heap.size,1,none⟩=some (.int .u64 k.d)∧w'.cell? ⟨w.heap.size,2,none⟩=some (.int .u8 k.l))
  (first
   |exact S3.out
   |exact⟨k10,k11,k12⟩
   |go_keep)
  (first
   |(go_at_call 117;refine(HSET.out _ (by exact ak HA.out rfl rfl rfl rfl)).mono ?_;rintro e w1 ⟨rfl,hb1⟩;have HB1:=aa hb1;obtain⟨hQ1,⟨k10,k11,k12⟩,hz1,_⟩:=HX.out _ HB1.out;clear hQ1 hb1)
   |(go_at_call 118;refine(HCHG.out _ (by exact ak HB1.out rfl rfl rfl rfl)).mono ?_;rintro e w3 ⟨rfl,hs3,ht3,hf3⟩;have S3:=aa hs3;have HT3:=aa ht3;have HF3:=aa hf3;clear hs3 ht3 hf3))
 go_wp2
 go_ret
 exact⟨rfl,HT3.out,HF3.out⟩
theorem qv (n:Nat) (M:List En) (id:Int) (k:Ke.K) (j:Nat):(keyOf (fI n M id k) j).isSome=(keyOf M j).isSome:=by
 unfold fI
 split
 ·rename_i hc
  split
  ·rfl
  ·rw[Bool.eq_iff_iff,jv,lF]
   have hs:(keyOf M id.toNat).isSome=true:=by
    unfold jC at hc
    split at hc
    ·cases hc
    ·split at hc
     ·assumption
     ·cases hc
   constructor
   ·rintro(rfl|q)
    ·exact hs
    ·exact q.2
   ·intro q
    by_cases e:j=id.toNat
    ·exact .inl e
    ·exact .inr ⟨e,q⟩
 ·rfl
theorem qg (n:Nat) {M:List En} (hn:(M.map (·.1)).Nodup) (id:Int) (k:Ke.K):(fI n M id k).length=M.length:=by
 unfold fI
 split
 ·rename_i hc
  split
  ·rfl
  ·unfold jC at hc
   split at hc
   ·cases hc
   ·split at hc
    ·rename_i hs
     obtain⟨k',hk'⟩:=Option.isSome_iff_exists.1 hs
     have:=jE hn ((dM hn).1 hk')
     rw[jR]
     omega
    ·cases hc
 ·rfl
theorem Leaves.kept (h:cw w base lo pb mb n np q v T H) {i:Nat} {x:Hd} (hx:H[i]? =some x) {M:List En} (hi: ∀j,(keyOf M j).isSome=(keyOf x.M j).isSome) (hl:M.length=x.M.length) (ht: ∃t,t≤x.turn+1∧(x.to t M).is w' n (jV np n q i)) (hf:Fr x.own w w'):Leaves w w' base lo pb mb n np q v T H ((Ms H).set i M):=by
 obtain⟨t,ht,hy⟩:=ht
 obtain⟨u1,u2⟩:=sQ (n:=n) (y:=x.to t M) h.un hx hi
 have hs:=dX (y:=x.to t M) hx
 have e:cS (H.set i (x.to t M))=cS H:=by
  have:(x.to t M).M.length=M.length:=rfl
  omega
 have hsep:=h.p.sep i x hx
 obtain⟨a,b⟩:=h.gU hx ht hf hy (Fr.refl _ _) u1 (by
  rw[u2,e]
  exact h.p.map.block (hf.block _ h.p.map.lt (fun q=>(hsep mb q).2.2 rfl)))
 exact Leaves.put h hx a b rfl
theorem au {G:List (List En)} {i:Nat} {M:List En} (h:G[i]? =some M):G.set i M=G:=by
 apply List.ext_getElem?
 intro j
 rw[List.getElem?_set]
 split
 ·rename_i e
  subst e
  split
  ·exact h.symm
  ·rename_i q
   exact absurd (List.getElem?_eq_some_iff.1 h).1 q
 ·rfl
theorem za (h:cw w base lo pb mb n np q v T H) {id c:Int} (hw:aN n H 0 id=some c): ∃(i:Nat) (x:Hd),H[i]? =some x∧c=(i:Int)∧BL n H id=i∧MM H i=x.M∧0≤id∧id<(n:Int)∧(keyOf x.M id.toNat).isSome=true:=by
 obtain⟨i,x,hx,hc,h1,h2,h3⟩:=jh n id H 0 c hw
 refine⟨i,x,hx,by omega,?_,cm hx,h1,h2,h3⟩
 unfold BL
 rw[hw]
 simp only[Option.getD_some]
 omega
theorem re (h:cw w base lo pb mb n np q v T H) (hT:T≤1000000000) (id:Int) (wfi:(Lit.int .i64 id).wf=true) (k:Ke.K) (hk:k.ok):
  Calls Tryz.prog 84 #[.pointer (some ⟨pb,0,none⟩),.int .i64 id,.agg #[.bool k.e,.int .u64 k.d,.int .u8 k.l]] w fun e w'=>e= .returned (.int .i64 (gC n H id k))∧Leaves w w' base lo pb mb n np q v T H (dU n H id k):=by
 have hn1:=h.p.n1
 cases hw:aN n H 0 id with
 |some c=>
  obtain⟨i,x,hx,rfl,ha,hm,h1,h2,h3⟩:=za h hw
  have hc:gC n H id k=jC n x.M id k:=by unfold gC jC;rw[hw,if_pos (show(some (i:Int)).isSome=true from rfl),if_pos h3]
  refine(mq h hT id k hk hx (fun W hW=>(uK hW id wfi i x hx hw).mono (by rintro e w' ⟨rfl,rfl⟩;exact⟨rfl,Below.refl _ _⟩))).mono ?_
  rintro e w' ⟨rfl,ht,hf⟩
  refine⟨by rw[hc],?_⟩
  have hL:=Leaves.kept h hx (qv n x.M id k) (qg n (cT.nd (h.p.sets.it i x hx)) id k) ht hf
  have e:dU n H id k=(Ms H).set i (fI n x.M id k):=by
   unfold dU
   rw[ha,hm,hc]
   split
   ·rfl
   ·rename_i q
    have:fI n x.M id k=x.M:=by unfold fI;rw[if_neg q]
    rw[this,au (oD hx)]
  rw[e]
  exact hL
 |none=>
  obtain⟨x,hx⟩:=h.p.at (i:=np) (by omega)
  have hko: ∀j:Nat,id=(j:Int)→j<n→keyOf x.M j=none:=fun j e hj=>dt (by rw[←e];exact hw) hj hx
  have hc:gC n H id k=jC n x.M id k:=by
   unfold gC jC
   rw[hw]
   by_cases hb:nH n id k
   ·rw[if_pos hb,if_pos hb]
   ·rw[if_neg hb,if_neg hb]
    unfold nH at hb
    simp only[not_or] at hb
    obtain⟨j,rfl⟩:=Int.eq_ofNat_of_zero_le (show 0≤id by omega)
    rw[show((j:Int)).toNat=j from rfl,hko j rfl (by omega)]
    rfl
  have hne: ¬gC n H id k=0:=by
   unfold gC
   rw[hw]
   split
   ·decide
   ·simp
  refine(mq h hT id k hk hx (fun W hW=>Cj hW id wfi x hx hw)).mono ?_
  rintro e w' ⟨rfl,ht,hf⟩
  refine⟨by rw[hc],?_⟩
  have hL:=Leaves.kept h hx (qv n x.M id k) (qg n (cT.nd (h.p.sets.it np x hx)) id k) ht hf
  have e:dU n H id k=(Ms H).set np (fI n x.M id k):=by
   unfold dU
   rw[if_neg hne]
   have:fI n x.M id k=x.M:=by unfold fI;rw[if_neg (by rw[←hc];exact hne)]
   rw[this,au (oD hx)]
  rw[e]
  exact hL
theorem nV (h:cw w base lo pb mb n np q v T H) (p d:Int) (hd:0≤d∧d<18446744073709551616):
  Calls Tryz.prog 100 #[.pointer (some ⟨pb,0,none⟩),.int .i64 p,.int .u64 d] w fun e w'=>e= .returned (.tuple #[.int .i64 (bI H (bb np H p d)),.agg #[.bool (bK H (bb np H p d)).e,.int .u64 (bK H (bb np H p d)).d,.int .u8 (bK H (bb np H p d)).l],.int .i64 (bA (bb np H p d)),.bool (bb np H p d).isSome])∧Below w.heap.size w w':=by
 unfold bb
 by_cases hp:0≤p∧p<(np:Int)
 ·rw[if_pos hp]
  obtain⟨p,rfl⟩:=Int.eq_ofNat_of_zero_le hp.1
  obtain⟨d,rfl⟩:=Int.eq_ofNat_of_zero_le hd.1
  obtain⟨g,cap,rfl,_⟩:=h.p.rows
  exact pZ h.p p d (by omega) (by omega)
 ·rw[if_neg hp]
  refine wY w _ p d (fun W hW=> ?_)
  have:=pd (h.below hW).p p
  rw[decide_eq_false hp] at this
  exact this
end
theorem zV (w:World) (a:Option Addr) (p d:Int) (hh: ∀W,Below w.heap.size w W→Calls Tryz.prog 100 #[.pointer a,.int .i64 p,.int .u64 d] W fun e w'=>e= .returned (.tuple #[.int .i64 0,.agg #[.bool false,.int .u64 0,.int .u8 0],.int .i64 0,.bool false])∧Below W.heap.size W w'):
  Calls Tryz.prog 104 #[.pointer a,.int .i64 p,.int .u64 d] w fun e w'=>e= .returned (.tuple #[.int .i64 0,.agg #[.bool false,.int .u64 0,.int .u8 0],.int .i64 0,.bool false])∧Below w.heap.size w w':=by
 have hbB:Below w.heap.size w (w.alloc (.cells #[.bool false,.int .u64 0,.int .u8 0] 130)):=(Below.refl _ _).alloc (Nat.le_refl _) _
 have HBEST:=aa (hh _ hbB)
 have HK:Hid (∀W,Below (w.alloc (.cells #[.bool false,.int .u64 0,.int .u8 0] 130)).heap.size (w.alloc (.cells #[.bool false,.int .u64 0,.int .u8 0] 130)) W→
   (∀j,W.frozen? ⟨w.heap.size,j,none⟩=false)∧W.cell? ⟨w.heap.size,0,none⟩=some (.bool false)∧W.cell? ⟨w.heap.size,1,none⟩=some (.int .u64 0)∧W.cell? ⟨w.heap.size,2,none⟩=some (.int .u8 0)∧(ja W w.heap.size ⟨false,0,0⟩).heap[w.heap.size]? =some (.cells #[.bool false,.int .u64 0,.int .u8 0] 130 (0,0))∧Below w.heap.size w (ja W w.heap.size ⟨false,0,0⟩)):=fun W hW=>by
  have hblk:W.heap[w.heap.size]? =some (.cells #[.bool false,.int .u64 0,.int .u8 0] 130 (0,0)):=(hW.block _ (by simp)).trans (World.alloc_heap_new w _)
  have hbw:Below w.heap.size w W:=hbB.trans (hW.mono hbB.size)
  have hfk:=lH W w.heap.size ⟨false,0,0⟩
  exact⟨fun j=>(an hblk j).2,(an hblk 0).1,(an hblk 1).1,(an hblk 2).1,jF (k0:=⟨false,0,0⟩) hblk,hbw.trans (hfk.below hbw.size (fun k e=>by omega))⟩
 clear hh hbB
 go_enter Tryz.func104,Tryz.ntmps104
 go_wp2_with (first
  |(go_at_call 100;refine(HBEST.out).mono ?_;rintro e w1 ⟨rfl,hb1⟩;obtain⟨f1,k0,k1,k2,hblk,hB1⟩:=HK.out w1 hb1;have f10:=f1 0;have f11:=f1 1;have f12:=f1 2;have HBLK:=aa hblk;have HB1:=aa hB1;clear f1 hblk hB1 hb1))
 have hkk:(((w1.setCell ⟨w.heap.size,0,none⟩ (.bool false)).setCell ⟨w.heap.size,1,none⟩ (.int .u64 0)).setCell ⟨w.heap.size,2,none⟩ (.int .u8 0))=ja w1 w.heap.size ⟨false,0,0⟩:=rfl
 rw[hkk]
 generalize ja w1 w.heap.size ⟨false,0,0⟩=W2 at*
 have k20:=(an HBLK.out 0).1
 have k21:=(an HBLK.out 1).1
 have k22:=(an HBLK.out 2).1
 have f20:=(an HBLK.out 0).2
 have f21:=(an HBLK.out 1).2
 have f22:=(an HBLK.out 2).2
 clear k0 k1 k2 f10 f11 f12 hkk
 have HB3:=aa (jF (k0:=⟨false,0,0⟩) (k1:=⟨false,0,0⟩) HBLK.out)
 simp only[List.getElem?_toArray,List.getElem?_cons_zero,List.getElem?_cons_succ] at k20 k21 k22
 refine wp_region_noPanic ?_
 refine wp_region_held_drew (S:=(fun w'=>w'.cell? ⟨w.heap.size,0,none⟩=some (.bool false)∧w'.cell? ⟨w.heap.size,1,none⟩=some (.int .u64 0)∧w'.cell? ⟨w.heap.size,2,none⟩=some (.int .u8 0))) (by kernel_rfl) ?_ (fun hHeld=> ?_)
 ·exact⟨k20,k21,k22⟩
 refine aE 0 (v:= ?_) rfl ?v0 ?_
 case v0=>(intro w hSw;(try dsimp only at hSw);go_simp;try with_reducible rfl)
 try simp only[ao]
 refine aE 1 (v:= ?_) rfl ?v1 ?_
 case v1=>(intro w hSw;(try dsimp only at hSw);go_simp;try with_reducible rfl)
 try simp only[ao]
 refine aE 2 (v:= ?_) rfl ?v2 ?_
 case v2=>(intro w hSw;(try dsimp only at hSw);go_simp;try with_reducible rfl)
 try simp only[ao]
 refine aE 3 (v:= ?_) rfl ?v3 ?_
 case v3=>(intro w hSw;(try dsimp only at hSw);go_simp;try with_reducible rfl)
 try simp only[ao]
 refine aE 4 (v:= ?_) rfl ?v4 ?_
 case v4=>(intro w hSw;(try dsimp only at hSw);go_simp;try with_reducible rfl)
 try simp only[ao]
 refine aZ 5 rfl (fun K hK=> ?_)
 go_simp
 refine hK.out _ _ ?_ (fun hHeld=> ?_)
 ·exact⟨(an (aB HB3.out) 0).1,(an (aB HB3.out) 1).1,(an (aB HB3.out) 2).1⟩
 clear hK K
 try simp only[ao]
 refine aE 6 (v:= ?_) rfl ?v6 ?_
 case v6=>(intro w hSw;(try dsimp only at hSw);go_simp;try with_reducible rfl)
 try simp only[ao]
 refine aE 7 (v:= ?_) rfl ?v7 ?_
 case v7=>(intro w hSw;(try dsimp only at hSw);go_simp;try with_reducible rfl)
 try simp only[ao]
 refine wpAnyH_done (by kernel_rfl) ?_ _
 simp only[NoPanic]
 have HW3:=aa (lH W2 w.heap.size ⟨false,0,0⟩)
 have HB4:=aa (aB HB3.out)
 have HF4:Hid (Fr (fun j=>j=w.heap.size) W2 (ja W2 w.heap.size ⟨false,0,0⟩).drew):=⟨HW3.out.os,HW3.out.tape,HW3.out.output,HW3.out.size,HW3.out.block⟩
 clear HB3 HW3 k20 k21 k22 f20 f21 f22 hHeld
 have hkk:(((W2.setCell ⟨w.heap.size,0,none⟩ (.bool false)).setCell ⟨w.heap.size,1,none⟩ (.int .u64 0)).setCell ⟨w.heap.size,2,none⟩ (.int .u8 0)).drew=(ja W2 w.heap.size ⟨false,0,0⟩).drew:=rfl
 rw[hkk]
 generalize (ja W2 w.heap.size ⟨false,0,0⟩).drew=W4 at*
 have g0:=(an HB4.out 0).1
 have g1:=(an HB4.out 1).1
 have g2:=(an HB4.out 2).1
 simp at g0 g1 g2
 go_wp2
 refine bodyPost_ret (v:= .tuple #[.int .i64 0,.agg #[.bool false,.int .u64 0,.int .u8 0],.int .i64 0,.bool false]) ?_ rfl ?_
 ·simp[results,Tryz.f104,go_sem,g0,g1,g2]
 refine⟨rfl,HB1.out.trans (HF4.out.below HB1.out.size (fun k e=>by omega))⟩
section
variable {w w' wa wb:World} {base lo pb mb n np q T g cap:Nat} {v:Value} {H:List Hd}
theorem yx (H:List Hd): ∀(l:List Nat) (b:Option Nat),(∀c,b=some c→ ∃y M,MM H c=y::M)→ ∀c,l.foldl (cF H) b=some c→ ∃y M,MM H c=y::M
 |[],b,h,c,hc=>h c hc
 |x::l,b,h,c,hc=>by
  refine yx H l (cF H b x) (fun c' hc'=> ?_) c hc
  unfold cF at hc'
  cases hM:MM H x with
  |nil=>rw[hM] at hc';exact h c' hc'
  |cons y M=>
   rw[hM] at hc'
   cases b with
   |none=>
    simp only at hc'
    injection hc' with hc'
    exact⟨y,M,by rw[←hc'];exact hM⟩
   |some c0=>
    simp only at hc'
    split at hc'
    ·injection hc' with hc'
     exact⟨y,M,by rw[←hc'];exact hM⟩
    ·exact h c' hc'
theorem mY {p d:Int} {c:Nat} (h:bb np H p d=some c):(0≤p∧p<(np:Int))∧iA H (di np p.toNat d.toNat)=some c∧ ∃x z M',H[c]? =some x∧x.M=z::M':=by
 unfold bb at h
 by_cases hp:0≤p∧p<(np:Int)
 ·rw[if_pos hp] at h
  obtain⟨y,M,e⟩:=yx H _ none (fun c hc=>by cases hc) c h
  refine⟨hp,h,?_⟩
  unfold MM at e
  cases hx:H[c]? with
  |none=>rw[hx] at e;cases e
  |some x=>rw[hx] at e;exact⟨x,y,M,rfl,e⟩
 ·rw[if_neg hp] at h;cases h
theorem vD (h:cw w base lo pb mb n np q v T H) (p d:Int) (hd:0≤d∧d<18446744073709551616):
  Calls Tryz.prog 104 #[.pointer (some ⟨pb,0,none⟩),.int .i64 p,.int .u64 d] w fun e w'=>e= .returned (.tuple #[.int .i64 (bI H (bb np H p d)),.agg #[.bool (bK H (bb np H p d)).e,.int .u64 (bK H (bb np H p d)).d,.int .u8 (bK H (bb np H p d)).l],.int .i64 (bA (bb np H p d)),.bool (bb np H p d).isSome])∧Leaves w w' base lo pb mb n np q v T H (gW np H p d):=by
 unfold gW
 cases hbb:bb np H p d with
 |none=>
  refine(zV w _ p d (fun W hW=> ?_)).mono ?_
  ·have:=nV (h.below hW) p d hd
   rw[hbb] at this
   exact this
  ·rintro e w' ⟨rfl,hb⟩
   exact⟨rfl,Leaves.same h hb⟩
 |some c=>
  obtain⟨hp,hb,x,z,M',hx,hM⟩:=mY hbb
  obtain⟨p,rfl⟩:=Int.eq_ofNat_of_zero_le hp.1
  obtain⟨d,rfl⟩:=Int.eq_ofNat_of_zero_le hd.1
  obtain⟨g,cap,rfl,_⟩:=h.p.rows
  have e1:bI H (some c)=(z.1:Int):=by show rL (MM H c)=_;rw[cm hx,hM];rfl
  have e2:bK H (some c)=z.2:=by show gF (MM H c)=_;rw[cm hx,hM];rfl
  have e3:bA (some c)=(c:Int):=rfl
  rw[e1,e2,e3]
  refine(xW h p d (by omega) (by omega) hb hx hM).mono ?_
  rintro e w' ⟨rfl,t,hq,hf⟩
  refine⟨rfl,Leaves.put h hx hq hf ?_⟩
  show(Ms H).set c (MM H c).tail=_
  rw[cm hx,hM]
  rfl
end
def gh (G:List (List En)):List Hd:=G.map (fun M=>⟨0,0,0,0,0,0,M⟩)
theorem dZ (G:List (List En)):Ms (gh G)=G:=by
 unfold Ms gh
 rw[List.map_map]
 exact List.map_id G
section
variable {H X:List Hd}
theorem ru (e:Ms H=Ms X) (np n:Nat) (p id:Int) (k:Ke.K):jG np n H p id k=jG np n X p id k:=by unfold jG;rw[ku e]
theorem Cf (e:Ms H=Ms X) (np n q p:Nat):j6 np n q H p=j6 np n q X p:=by unfold j6;rw[mV e]
theorem ym (e:Ms H=Ms X) (np n q:Nat) (p id:Int) (k:Ke.K):fG np n q H p id k=fG np n q X p id k:=by unfold fG;rw[ru e,Cf e,mV e,e]
theorem qK (e:Ms H=Ms X) (n:Nat) (id:Int) (k:Ke.K):gC n H id k=gC n X id k:=by unfold gC;rw[ku e]
theorem DW (e:Ms H=Ms X) (n:Nat) (id:Int):BL n H id=BL n X id:=by unfold BL;rw[ku e]
theorem zy (e:Ms H=Ms X) (n:Nat) (id:Int) (k:Ke.K):dU n H id k=dU n X id k:=by unfold dU;rw[qK e,DW e,mV e,e]
theorem zN (e:Ms H=Ms X) (np:Nat) (p d:Int):bb np H p d=bb np X p d:=by unfold bb;rw[D7 e]
theorem Cp (e:Ms H=Ms X) (np:Nat) (p d:Int):gW np H p d=gW np X p d:=by unfold gW;rw[zN e,mV e,e]
end
def PQ (w:World) (O:Nat→Prop) (pb n np q T:Nat) (G:List (List En)):Prop:=
 ∃(base lo mb:Nat) (v:Value) (H:List Hd),cw w base lo pb mb n np q v T H∧Ms H=G∧ ∀k,jD pb mb v H k↔O k
section
variable {w w':World} {O:Nat→Prop} {pb n np q T:Nat} {G G':List (List En)}
theorem PQ.below (h:PQ w O pb n np q T G) (hb:Below w.heap.size w w'):PQ w' O pb n np q T G:=by
 obtain⟨base,lo,mb,v,H,hQ,hG,hO⟩:=h
 exact⟨base,lo,mb,v,H,hQ.below hb,hG,hO⟩
theorem PQ.frame {S:Nat→Prop} (h:PQ w O pb n np q T G) (hf:Fr S w w') (hn: ∀k,O k→ ¬S k):PQ w' O pb n np q T G:=by
 obtain⟨base,lo,mb,v,H,hQ,hG,hO⟩:=h
 exact⟨base,lo,mb,v,H,hQ.frame hf (fun k hk=>hn k ((hO k).1 hk)),hG,hO⟩
theorem PQ.more (h:PQ w O pb n np q T G) {T':Nat} (ht:T≤T'):PQ w O pb n np q T' G:=by
 obtain⟨base,lo,mb,v,H,hQ,hG,hO⟩:=h
 exact⟨base,lo,mb,v,H,hQ.more ht,hG,hO⟩
theorem PQ.blocks (h:PQ w O pb n np q T G): ∀k,O k→k<w.heap.size:=by
 obtain⟨base,lo,mb,v,H,hQ,hG,hO⟩:=h
 exact fun k hk=>hQ.p.blocks k ((hO k).2 hk)
theorem PQ.len (h:PQ w O pb n np q T G):G.length=np+1:=by
 obtain⟨base,lo,mb,v,H,hQ,hG,hO⟩:=h
 rw[←hG,rY];exact hQ.p.len
theorem PQ.un (h:PQ w O pb n np q T G):Un (gh G):=by
 obtain⟨base,lo,mb,v,H,hQ,hG,hO⟩:=h
 exact Fe (by rw[hG,dZ]) hQ.un
theorem PQ.at {i:Nat} {M:List En} (h:PQ w O pb n np q T G) (hi:G[i]? =some M):(M.map (·.1)).Nodup∧(∀y∈M,y.1<n)∧M.length≤jV np n q i∧ ∀y∈M,Ke.aJ y.2=true:=by
 obtain⟨base,lo,mb,v,H,hQ,hG,hO⟩:=h
 rw[←hG] at hi
 simp only[Ms,List.getElem?_map] at hi
 cases hx:H[i]? with
 |none=>rw[hx] at hi;cases hi
 |some x=>
  rw[hx] at hi
  injection hi with hi
  subst hi
  have hs:=hQ.p.sets.it i x hx
  refine⟨cT.nd hs,?_,cT.fit hs,?_⟩
  ·obtain⟨R,L,hS,hI⟩:=gD hs
   exact hI.jj hS
  ·obtain⟨R,L,hS,hI⟩:=gD hs
   intro y hy
   have hy':y∈x.M:=hy
   rw[←hI.eq] at hy'
   rcases ix.1 hy' with ⟨d,s,_,h2⟩|⟨lv,_,_,h2⟩
   ·rw[h2];rfl
   ·rw[h2];rfl
theorem Leaves.pq {base lo mb:Nat} {v:Value} {H:List Hd} (hO: ∀k,jD pb mb v H k↔O k) (h:Leaves w w' base lo pb mb n np q v T H G):PQ w' O pb n np q (T+1) G∧Fr O w w':=by
 obtain⟨⟨H',hQ,hG,hO'⟩,hf⟩:=h
 exact⟨⟨base,lo,mb,v,H',hQ,hG,fun k=>(hO' k).trans (hO k)⟩,hf.wide (fun k _ q=>(hO k).1 q)⟩
theorem PQ.put (h:PQ w O pb n np q T G) (hT:T≤1000000000) (p id:Int) (k:Ke.K) (hk:k.ok):
  Calls Tryz.prog 132 #[.pointer (some ⟨pb,0,none⟩),.int .i64 p,.int .i64 id,.agg #[.bool k.e,.int .u64 k.d,.int .u8 k.l]] w fun e w'=>e= .returned (.int .i64 (jG np n (gh G) p id k))∧PQ w' O pb n np q (T+1) (fG np n q (gh G) p id k)∧Fr O w w':=by
 obtain⟨base,lo,mb,v,H,hQ,rfl,hO⟩:=h
 have e:Ms (gh (Ms H))=Ms H:=dZ _
 rw[ru e,ym e]
 exact(zs hQ hT p id k hk).mono (fun e w' h=>⟨h.1,h.2.pq hO⟩)
theorem PQ.change (h:PQ w O pb n np q T G) (hT:T≤1000000000) (id:Int) (wfi:(Lit.int .i64 id).wf=true) (k:Ke.K) (hk:k.ok):
  Calls Tryz.prog 84 #[.pointer (some ⟨pb,0,none⟩),.int .i64 id,.agg #[.bool k.e,.int .u64 k.d,.int .u8 k.l]] w fun e w'=>e= .returned (.int .i64 (gC n (gh G) id k))∧PQ w' O pb n np q (T+1) (dU n (gh G) id k)∧Fr O w w':=by
 obtain⟨base,lo,mb,v,H,hQ,rfl,hO⟩:=h
 have e:Ms (gh (Ms H))=Ms H:=dZ _
 rw[qK e,zy e]
 exact(re hQ hT id wfi k hk).mono (fun e w' h=>⟨h.1,h.2.pq hO⟩)
theorem PQ.Cq (h:PQ w O pb n np q T G) (p d:Int) (hd:0≤d∧d<18446744073709551616):
  Calls Tryz.prog 100 #[.pointer (some ⟨pb,0,none⟩),.int .i64 p,.int .u64 d] w fun e w'=>e= .returned (.tuple #[.int .i64 (bI (gh G) (bb np (gh G) p d)),.agg #[.bool (bK (gh G) (bb np (gh G) p d)).e,.int .u64 (bK (gh G) (bb np (gh G) p d)).d,.int .u8 (bK (gh G) (bb np (gh G) p d)).l],.int .i64 (bA (bb np (gh G) p d)),.bool (bb np (gh G) p d).isSome])∧Below w.heap.size w w':=by
 obtain⟨base,lo,mb,v,H,hQ,rfl,hO⟩:=h
 have e:Ms (gh (Ms H))=Ms H:=dZ _
 rw[zN e,CO e,CV e]
 exact nV hQ p d hd
theorem PQ.take (h:PQ w O pb n np q T G) (p d:Int) (hd:0≤d∧d<18446744073709551616):
  Calls Tryz.prog 104 #[.pointer (some ⟨pb,0,none⟩),.int .i64 p,.int .u64 d] w fun e w'=>e= .returned (.tuple #[.int .i64 (bI (gh G) (bb np (gh G) p d)),.agg #[.bool (bK (gh G) (bb np (gh G) p d)).e,.int .u64 (bK (gh G) (bb np (gh G) p d)).d,.int .u8 (bK (gh G) (bb np (gh G) p d)).l],.int .i64 (bA (bb np (gh G) p d)),.bool (bb np (gh G) p d).isSome])∧PQ w' O pb n np q (T+1) (gW np (gh G) p d)∧Fr O w w':=by
 obtain⟨base,lo,mb,v,H,hQ,rfl,hO⟩:=h
 have e:Ms (gh (Ms H))=Ms H:=dZ _
 rw[zN e,CO e,CV e,Cp e]
 exact(vD hQ p d hd).mono (fun e w' h=>⟨h.1,h.2.pq hO⟩)
end
theorem Ar (np n q:Nat) (w:World) (h1:1≤np∧np≤64) (h2:1≤n∧n≤1024) (h3:1≤q∧q≤256):
  Calls Tryz.prog 29 #[.int .i64 np,.int .i64 n,.int .i64 q] w fun e w'=> ∃O,e= .returned (.pointer (some ⟨w.heap.size+1,0,none⟩))∧PQ w' O (w.heap.size+1) n np q 0 (List.replicate (np+1) [])∧(∀k,O k→w.heap.size≤k)∧Below w.heap.size w w':=by
 refine(pz np n q w h1.1 h1.2 h2.1 h2.2 h3.1 h3.2).mono ?_
 rintro e w1 ⟨v,H,rfl,hl,hB⟩
 have hQ:=hB.GX hl h2 h1 h3
 refine⟨jD (w.heap.size+1) w.heap.size v H,rfl,⟨_,_,_,v,H,hQ,?_,fun _=>Iff.rfl⟩,?_,hB.dO⟩
 ·apply List.ext_getElem?
  intro i
  rw[List.getElem?_replicate]
  unfold Ms
  rw[List.getElem?_map]
  split
  ·rename_i hi
   have hx:H[i]? =some (H[i]'(by omega)):=List.getElem?_eq_getElem _
   rw[hx]
   exact congrArg some (hB.fresh i _ hx).1
  ·rename_i hi
   rw[List.getElem?_eq_none (by omega)]
   rfl
 ·rintro k (e|e|e|⟨i,x,hx,hk⟩)
  ·omega
  ·omega
  ·have:=(Dc.mD hB.row k e).1;omega
  ·have:=hB.sets.low i x hx k hk;omega
end Go.Proofs.YtdbailcdlngemaaGreatDoor
namespace Go.Proofs.YtdbailcdlngemaaGreatDoor
open Go.RowKit Go.Lib Go.Deep Go.ChangeShapes Go.WideShapes Go.ChangeAt
section
variable {H:Type} {enc:TypeId×Value→H} {w:World} {base:Nat} {spare:Nat→Bool} {held:Bool}
end
end Go.Proofs.YtdbailcdlngemaaGreatDoor

/- YtnmhcgpnhlhcgaaGreatDoorGb: of the texts Mp Mh X0 X1 X2 X3 X4 X5 X6 Mi Me Y1 Y2 Y3 Y4 Y5 Y6 Y8 Y9 Y10 Y12 Y13 Y14 what is wanted. -/
import Derived.Test.YtnmhcgpnhlhcgaaGreatDoorG0
import Derived.Test.YtnmhcgpnhlhcgaaGreatDoorRows
import Derived.WalkKit
import Derived.Below
import Derived.WalkSpells
import Derived.WalkLawsBesides
import Derived.StillTactics
import Derived.RegionTactic
import Derived.RowKit3
import Derived.Laws.MakeOwn
import Derived.OwnWalk
import Derived.Deep.QuietTactic
import Derived.BigQuiet
import Derived.Deep.RegionHeld3
import Derived.Deep.DrawnRows
import Derived.Lib.SmallJoins
import Derived.WalkMore
import Derived.Test.YtnmhcgpnhlhcgaaGreatDoorGa
import Derived.Laws.OwnMore
import Derived.Maps.AppendAt
import Derived.Deep.AppendLies
import Derived.OneCell
import Derived.Deep.MidRow
import Derived.RangeFuncNested
import Derived.RangeFuncBound
import Derived.RangeFuncCalls
import Derived.RangeFuncLeaves
import Derived.RangeFuncBox
import Derived.Shelf.Abstract
import Derived.Shelf.RegionOpen
import Derived.OwnWalkIn
import Derived.TacticsInMore
import Derived.LoopNIn
import Derived.LoopIn
set_option maxHeartbeats 16000000
set_option maxRecDepth 100000
set_option linter.unusedVariables false
set_option linter.unusedSimpArgs false
namespace Go.Proofs.YtnmhcgpnhlhcgaaGreatDoor.Ph
open Go.RowKit
theorem set_same (w:World) (a:Addr) (x u:Value) (h:w.cell? a=some u):(w.setCell a x).cell? a=some x:=World.cell?_setCell_same _ _ _ h
theorem set_other (w:World) (b o b' o':Nat) (x:Value) (h: ¬(b=b'∧o=o')):(w.setCell (vAt b o) x).cell? (vAt b' o')=w.cell? (vAt b' o'):=
 World.cell?_setCell_other _ _ _ _ (by grind)
structure Rep (w:World) (b g n rt ct:Nat) (D S I C A B:Nat→Nat) (T:Nat→Bool):Prop where
 bg:b≠g
 sl: ∃cp,w.cell? (vA0 b)=some (.slice (some (vA0 g)) (n+1) cp)
 rt:w.cell? (vAt b 1)=some (vI6 (rt:Int))
 ct:w.cell? (vAt b 2)=some (vI6 (ct:Int))
 nd: ∀x,x≤n→w.cell? (vAt g (x*7))=some (vU6 ((D x:Nat):Int))
 ns: ∀x,x≤n→w.cell? (vAt g (x*7+1))=some (vU6 ((S x:Nat):Int))
 ni: ∀x,x≤n→w.cell? (vAt g (x*7+2))=some (vI6 ((I x:Nat):Int))
 nc: ∀x,x≤n→w.cell? (vAt g (x*7+3))=some (vI6 ((C x:Nat):Int))
 na: ∀x,x≤n→w.cell? (vAt g (x*7+4))=some (vI6 ((A x:Nat):Int))
 nb: ∀x,x≤n→w.cell? (vAt g (x*7+5))=some (vI6 ((B x:Nat):Int))
 nt: ∀x,x≤n→w.cell? (vAt g (x*7+6))=some (.bool (T x))
 fb: ∀o,w.frozen? (vAt b o)=false
 fg: ∀o,w.frozen? (vAt g o)=false
section
variable {w:World} {b g n rt ct:Nat} {D S I C A B:Nat→Nat} {T:Nat→Bool}
theorem Rep.lt_b (h:Rep w b g n rt ct D S I C A B T):b<w.heap.size:=World.block_lt_of_cell? w (vAt b 1) h.rt
theorem Rep.lt_g (h:Rep w b g n rt ct D S I C A B T):g<w.heap.size:=World.block_lt_of_cell? w (vAt g (0*7)) (h.nd 0 (Nat.zero_le _))
theorem Rep.kept {w':World} (h:Rep w b g n rt ct D S I C A B T) (hb:w'.heap[b]? =w.heap[b]?) (hg:w'.heap[g]? =w.heap[g]?):Rep w' b g n rt ct D S I C A B T:=by
 have:=grB hb
 have:=grB hg
 exact mK
theorem Rep.like {w':World} (h:Rep w b g n rt ct D S I C A B T) (e:w'.heap=w.heap):Rep w' b g n rt ct D S I C A B T:=h.kept (by rw[e]) (by rw[e])
theorem Rep.drew (h:Rep w b g n rt ct D S I C A B T):Rep w.drew b g n rt ct D S I C A B T:=h.like rfl
theorem Rep.drewN (h:Rep w b g n rt ct D S I C A B T) (q:Nat):Rep (w.drewN q) b g n rt ct D S I C A B T:=h.like rfl
theorem Rep.below (h:Rep w b g n rt ct D S I C A B T) {w':World} (hw:vBw w w'):Rep w' b g n rt ct D S I C A B T:=h.kept (hw.block b h.lt_b) (hw.block g h.lt_g)
theorem Rep.alloc (h:Rep w b g n rt ct D S I C A B T) (o:Obj):Rep (w.alloc o) b g n rt ct D S I C A B T:=h.below (bzR.alloc lzr o)
theorem Rep.setR (h:Rep w b g n rt ct D S I C A B T) (v:Nat):Rep (w.setCell (vAt b 1) (vI6 (v:Int))) b g n v ct D S I C A B T:=mK
theorem Rep.setN (h:Rep w b g n rt ct D S I C A B T) (v:Nat):Rep (w.setCell (vAt b 2) (vI6 (v:Int))) b g n rt v D S I C A B T:=mK
theorem Rep.setD (h:Rep w b g n rt ct D S I C A B T) (p:Nat) (hp:p≤n) (v:Nat):Rep (w.setCell (vAt g (p*7)) (vU6 (v:Int))) b g n rt ct (upd D p v) S I C A B T:=mK
theorem Rep.setS (h:Rep w b g n rt ct D S I C A B T) (p:Nat) (hp:p≤n) (v:Nat):Rep (w.setCell (vAt g (p*7+1)) (vU6 (v:Int))) b g n rt ct D (upd S p v) I C A B T:=mK
theorem Rep.setI (h:Rep w b g n rt ct D S I C A B T) (p:Nat) (hp:p≤n) (v:Nat):Rep (w.setCell (vAt g (p*7+2)) (vI6 (v:Int))) b g n rt ct D S (upd I p v) C A B T:=mK
theorem Rep.setC (h:Rep w b g n rt ct D S I C A B T) (p:Nat) (hp:p≤n) (v:Nat):Rep (w.setCell (vAt g (p*7+3)) (vI6 (v:Int))) b g n rt ct D S I (upd C p v) A B T:=mK
theorem Rep.setA (h:Rep w b g n rt ct D S I C A B T) (p:Nat) (hp:p≤n) (v:Nat):Rep (w.setCell (vAt g (p*7+4)) (vI6 (v:Int))) b g n rt ct D S I C (upd A p v) B T:=mK
theorem Rep.setB (h:Rep w b g n rt ct D S I C A B T) (p:Nat) (hp:p≤n) (v:Nat):Rep (w.setCell (vAt g (p*7+5)) (vI6 (v:Int))) b g n rt ct D S I C A (upd B p v) T:=mK
theorem Rep.setT (h:Rep w b g n rt ct D S I C A B T) (p:Nat) (hp:p≤n) (v:Bool):Rep (w.setCell (vAt g (p*7+6)) (.bool v)) b g n rt ct D S I C A B (upd T p v):=mK
end
attribute [local go_sem ↓] Go.wp_at_zero Go.wp_at_succ
def nodeZero:Value:= .agg #[vU6 0,vU6 0,vI6 0,vI6 0,vI6 0,vI6 0,.bool false]
def nodeCells (n:Nat):Array Value:=madeCells nodeZero.cells ((n+1)*7)
theorem node_at (n k:Nat) (h:k<(n+1)*7):(nodeCells n)[k]? =some ((#[Value.int .u64 0,vU6 0,vI6 0,vI6 0,vI6 0,vI6 0,.bool false]:Array Value)[k%7]!):=by
 unfold nodeCells madeCells nodeZero
 simp[Value.cells,h]
theorem infoNode:(Tryz.prog.info? 337).map (fun i=>(i.zero,i.size,i.bytes))=some (some nodeZero,7,56):=by rfl
theorem new_rep (w:World) (n:Nat):
  Rep ((w.alloc (.cells (nodeCells n) 337)).alloc (.cells #[.slice (some (vA0 w.heap.size)) (n+1) (n+1),vI6 0,vI6 0] 277)) (w.heap.size+1) w.heap.size n 0 0 (fun _=>0) (fun _=>0) (fun _=>0) (fun _=>0) (fun _=>0) (fun _=>0) (fun _=>false):=by
 have e:w.heap.size+1=(w.alloc (.cells (nodeCells n) 337)).heap.size:=by simp
 have hb: ∀i,((w.alloc (.cells (nodeCells n) 337)).alloc (.cells #[.slice (some (vA0 w.heap.size)) (n+1) (n+1),vI6 0,vI6 0] 277)).cell? (vAt (w.heap.size+1) i)=(#[.slice (some (vA0 w.heap.size)) (n+1) (n+1),vI6 0,vI6 0]:Array Value)[i]? :=by
  simp
 have hg: ∀i,((w.alloc (.cells (nodeCells n) 337)).alloc (.cells #[.slice (some (vA0 w.heap.size)) (n+1) (n+1),vI6 0,vI6 0] 277)).cell? (vAt w.heap.size i)=(nodeCells n)[i]? :=by
  simp
 have fg: ∀i,((w.alloc (.cells (nodeCells n) 337)).alloc (.cells #[.slice (some (vA0 w.heap.size)) (n+1) (n+1),vI6 0,vI6 0] 277)).frozen? (vAt w.heap.size i)=false:=by
  simp
 refine⟨by omega,(by grind),by simp,by simp,fun x hx=> ?_,fun x hx=> ?_,fun x hx=> ?_,fun x hx=> ?_,fun x hx=> ?_,fun x hx=> ?_,fun x hx=> ?_,fun o=>by simp,fg⟩
 ·grind[Ph.node_at]
 ·grind[Ph.node_at]
 ·grind[Ph.node_at]
 ·grind[Ph.node_at]
 ·rw[hg,node_at n _ (by omega),show(x*7+4)%7=4 by omega];rfl
 ·rw[hg,node_at n _ (by omega),show(x*7+5)%7=5 by omega];rfl
 ·rw[hg,node_at n _ (by omega),show(x*7+6)%7=6 by omega];rfl
theorem new_ok (n:Nat) (w:World) (h1:1≤n) (h2:n≤1024):
  vCa 115 #[vI6 n] w fun e w'=>e= .returned (vPt (w.heap.size+1))∧Rep w' (w.heap.size+1) w.heap.size n 0 0 (fun _=>0) (fun _=>0) (fun _=>0) (fun _=>0) (fun _=>0) (fun _=>0) (fun _=>false)∧vBw w w':=by
 obtain⟨i0,hi,hz0,hz1,hz2⟩:=info_parts infoNode
 have hmk: ∀w,(Instr.makeSlice 275 (vI6 ((n:Int)+1)) (vI6 ((n:Int)+1))).run Tryz.prog w= .ok (.slice (some (vA0 w.heap.size)) (n+1) (n+1)) (w.alloc (.cells (nodeCells n) 337)):=by
  intro w
  have:=run_make w 275 337 i0 nodeZero (by simp) hi hz0 .i64 .i64 ((n:Int)+1) ((n:Int)+1) (by omega) (by omega) (by grind) (by omega)
  rw[hz1,show((n:Int)+1).toNat=n+1 by omega] at this
  exact this
 have HR:=veil (new_rep w n)
 clear hi hz0 hz1 hz2
 refine ge ?_
 go_wp2
 go_ret
 exact⟨rfl,HR.out,bzA.alloc (by simp) _⟩
def bef (d1 s1 i1 d2 s2 i2:Nat):Bool:=if d1=d2 then(if s1=s2 then decide (i1<i2) else decide (s1<s2)) else decide (d1<d2)
theorem before_ok (d1 s1 i1 d2 s2 i2:Nat) (w:World):
  vQ 243 #[.agg #[vU6 d1,vU6 s1,vI6 i1],.agg #[vU6 d2,vU6 s2,vI6 i2]] w (.bool (bef d1 s1 i1 d2 s2 i2)):=by
 generalize hb:bef d1 s1 i1 d2 s2 i2=bb
 unfold bef at hb
 by_cases h1:d1=d2
 ·rw[if_pos h1] at hb
  by_cases h2:s1=s2
  ·rw[if_pos h2] at hb
   subst h1 h2
   refine ge ?_
   go_wp2
   go_ret
   exact⟨by rfl,bzA.alloc (by simp) _⟩
  ·rw[if_neg h2] at hb
   have h2': ¬(s1:Int)=(s2:Int):=by omega
   subst h1
   refine ge ?_
   go_wp2
   go_ret
   exact⟨by rfl,bzA.alloc (by simp) _⟩
 ·rw[if_neg h1] at hb
  have h1': ¬(d1:Int)=(d2:Int):=by omega
  refine ge ?_
  go_wp2
  go_ret
  exact⟨by rfl,bzA.alloc (by simp) _⟩
section
variable {w:World} {b g n rt ct:Nat} {D S I C A B:Nat→Nat} {T:Nat→Bool}
theorem join_left (two:Nat) (w:World) (b:Nat):
  vS 238 #[vPt b,vI6 0,vI6 two] w (vI6 two):=by
 refine ge ?_
 go_wp2
 go_ret
 simp
theorem join_right (one:Nat) (h1:1≤one) (w:World) (b:Nat):
  vS 238 #[vPt b,vI6 one,vI6 0] w (vI6 one):=by
 have h0: ¬(one:Int)=0:=by omega
 refine ge ?_
 go_wp2
 go_ret
 simp
theorem join_swap (h:Rep w b g n rt ct D S I C A B T) (p q:Nat) (hp:1≤p) (hpn:p≤n) (hq:1≤q) (hqn:q≤n) (hf:C p≤n) (hfq:C p≠q)
  (hbef:bef (D p) (S p) (I p) (D q) (S q) (I q)=true):
  vCa 238 #[vPt b,vI6 q,vI6 p] w fun e w'=>e= .returned (vI6 p)∧
   Rep w' b g n rt ct D S I (upd C p q) (upd (if C p=0 then A else upd A (C p) q) q p) (upd B q (C p)) T∧Only b g w w':=by
 obtain⟨cp,e0⟩:=h.sl
 have ep0:=h.nd p hpn;have ep1:=h.ns p hpn;have ep2:=h.ni p hpn
 have eq0:=h.nd q hqn;have eq1:=h.ns q hqn;have eq2:=h.ni q hqn
 have p0: ¬(p:Int)=0:=by omega
 have q0: ¬(q:Int)=0:=by omega
 have pl:p<n+1:=by omega
 have ql:q<n+1:=by omega
 have pl0:(0:Int)≤(p:Int):=by omega
 have ql0:(0:Int)≤(q:Int):=by omega
 obtain⟨L,hL⟩: ∃L,L=n+1:=⟨_,rfl⟩
 rw[←hL] at e0
 have pl1:(p:Int)<(L:Int):=by omega
 have ql1:(q:Int)<(L:Int):=by omega
 have HLe:=veil hL
 clear hL pl ql
 have HB:=veil fun w1 (hb:vBw w w1)=>h.below hb
 have HE:=before_ok (D p) (S p) (I p) (D q) (S q) (I q)
 rw[hbef] at HE
 have HE:=veil HE
 have hbb:=h.lt_b
 have hgg:=h.lt_g
 clear h hbef
 refine ge ?_
 go_wp2
 go_region_held3 (fun w'=>w'.cell? (vA0 b)=some (.slice (some (vA0 g)) L cp)∧w'.cell? (vAt g (p*7))=some (vU6 (D p))∧w'.cell? (vAt g (p*7+1))=some (vU6 (S p))∧w'.cell? (vAt g (p*7+2))=some (vI6 (I p))∧w'.cell? (vAt g (q*7))=some (vU6 (D q))∧w'.cell? (vAt g (q*7+1))=some (vU6 (S q))∧w'.cell? (vAt g (q*7+2))=some (vI6 (I q)))
  (first|go_keep|exact⟨(hb1.cell (p:=(vA0 b)) hbb).trans e0,(hb1.cell (p:=(vAt g (p*7))) hgg).trans ep0,(hb1.cell (p:=(vAt g (p*7+1))) hgg).trans ep1,(hb1.cell (p:=(vAt g (p*7+2))) hgg).trans ep2,(hb1.cell (p:=(vAt g (q*7))) hgg).trans eq0,(hb1.cell (p:=(vAt g (q*7+1))) hgg).trans eq1,(hb1.cell (p:=(vAt g (q*7+2))) hgg).trans eq2⟩)
  ((go_at_call 243;refine(HE.out _).mono ?_;rintro e w1 ⟨rfl,hb1'⟩;have hb1:=(show vBw w w.drew from bzR.drew).trans hb1';clear hb1'))
 have hr:=HB.out _ hb1
 have HL:=veil hb1
 have HR:=veil hr
 clear hb1 e0 ep0 ep1 ep2 eq0 eq1 eq2
 obtain⟨cp1,e0⟩:=hr.sl
 rw[←HLe.out] at e0
 have c1:=hr.nc p hpn
 have c2:=hr.na q hqn
 have c3:=hr.nb q hqn
 have fg:=hr.fg
 by_cases hf0:C p=0
 ·rw[hf0] at c1
  have c1':w1.cell? (vAt g (p*7+3))=some (vI6 0):=c1
  have HF0:=veil hf0
  clear hr c1 hf0 hf hfq
  go_wp2
  go_region
  go_wp2
  go_ret
  refine⟨rfl,?_,?_⟩
  ·exact(((HR.out.setA q hqn p).setB q hqn 0).setC p hpn q).drew
  ·exact((((Only.of_below HL.out).set (vAt g (q*7+4)) _ (Or.inr rfl)).set (vAt g (q*7+5)) _ (Or.inr rfl)).set (vAt g (p*7+3)) _ (Or.inr rfl)).drew
 ·have c4:=hr.na (C p) hf
  have HF0:=veil hf0
  generalize hff:C p=f at*
  have f0: ¬(f:Int)=0:=by omega
  have fl0:(0:Int)≤(f:Int):=by omega
  have fl1:(f:Int)<(L:Int):=by have:=HLe.out;omega
  clear hr
  go_wp2
  go_region
  go_wp2
  go_ret
  refine⟨rfl,?_,?_⟩
  ·exact((((HR.out.setA f hf q).setA q hqn p).setB q hqn f).setC p hpn q).drew
  ·exact(((((Only.of_below HL.out).set (vAt g (f*7+4)) _ (Or.inr rfl)).set (vAt g (q*7+4)) _ (Or.inr rfl)).set (vAt g (q*7+5)) _ (Or.inr rfl)).set (vAt g (p*7+3)) _ (Or.inr rfl)).drew
theorem join_keep (h:Rep w b g n rt ct D S I C A B T) (p q:Nat) (hp:1≤p) (hpn:p≤n) (hq:1≤q) (hqn:q≤n) (hf:C p≤n) (hfq:C p≠q)
  (hbef:bef (D q) (S q) (I q) (D p) (S p) (I p)=false):
  vCa 238 #[vPt b,vI6 p,vI6 q] w fun e w'=>e= .returned (vI6 p)∧
   Rep w' b g n rt ct D S I (upd C p q) (upd (if C p=0 then A else upd A (C p) q) q p) (upd B q (C p)) T∧Only b g w w':=by
 obtain⟨cp,e0⟩:=h.sl
 have ep0:=h.nd p hpn;have ep1:=h.ns p hpn;have ep2:=h.ni p hpn
 have eq0:=h.nd q hqn;have eq1:=h.ns q hqn;have eq2:=h.ni q hqn
 have p0: ¬(p:Int)=0:=by omega
 have q0: ¬(q:Int)=0:=by omega
 have pl:p<n+1:=by omega
 have ql:q<n+1:=by omega
 have pl0:(0:Int)≤(p:Int):=by omega
 have ql0:(0:Int)≤(q:Int):=by omega
 obtain⟨L,hL⟩: ∃L,L=n+1:=⟨_,rfl⟩
 rw[←hL] at e0
 have pl1:(p:Int)<(L:Int):=by omega
 have ql1:(q:Int)<(L:Int):=by omega
 have HLe:=veil hL
 clear hL pl ql
 have HB:=veil fun w1 (hb:vBw w w1)=>h.below hb
 have HE:=before_ok (D q) (S q) (I q) (D p) (S p) (I p)
 rw[hbef] at HE
 have HE:=veil HE
 have hbb:=h.lt_b
 have hgg:=h.lt_g
 clear h hbef
 refine ge ?_
 go_wp2
 go_region_held3 (fun w'=>w'.cell? (vA0 b)=some (.slice (some (vA0 g)) L cp)∧w'.cell? (vAt g (p*7))=some (vU6 (D p))∧w'.cell? (vAt g (p*7+1))=some (vU6 (S p))∧w'.cell? (vAt g (p*7+2))=some (vI6 (I p))∧w'.cell? (vAt g (q*7))=some (vU6 (D q))∧w'.cell? (vAt g (q*7+1))=some (vU6 (S q))∧w'.cell? (vAt g (q*7+2))=some (vI6 (I q)))
  (first|go_keep|exact⟨(hb1.cell (p:=(vA0 b)) hbb).trans e0,(hb1.cell (p:=(vAt g (p*7))) hgg).trans ep0,(hb1.cell (p:=(vAt g (p*7+1))) hgg).trans ep1,(hb1.cell (p:=(vAt g (p*7+2))) hgg).trans ep2,(hb1.cell (p:=(vAt g (q*7))) hgg).trans eq0,(hb1.cell (p:=(vAt g (q*7+1))) hgg).trans eq1,(hb1.cell (p:=(vAt g (q*7+2))) hgg).trans eq2⟩)
  ((go_at_call 243;refine(HE.out _).mono ?_;rintro e w1 ⟨rfl,hb1'⟩;have hb1:=(show vBw w w.drew from bzR.drew).trans hb1';clear hb1'))
 have hr:=HB.out _ hb1
 have HL:=veil hb1
 have HR:=veil hr
 clear hb1 e0 ep0 ep1 ep2 eq0 eq1 eq2
 obtain⟨cp1,e0⟩:=hr.sl
 rw[←HLe.out] at e0
 have c1:=hr.nc p hpn
 have c2:=hr.na q hqn
 have c3:=hr.nb q hqn
 have fg:=hr.fg
 by_cases hf0:C p=0
 ·rw[hf0] at c1
  have c1':w1.cell? (vAt g (p*7+3))=some (vI6 0):=c1
  have HF0:=veil hf0
  clear hr c1 hf0 hf hfq
  go_wp2
  go_region
  go_wp2
  go_ret
  refine⟨rfl,?_,?_⟩
  ·exact(((HR.out.setA q hqn p).setB q hqn 0).setC p hpn q).drew
  ·exact((((Only.of_below HL.out).set (vAt g (q*7+4)) _ (Or.inr rfl)).set (vAt g (q*7+5)) _ (Or.inr rfl)).set (vAt g (p*7+3)) _ (Or.inr rfl)).drew
 ·have c4:=hr.na (C p) hf
  have HF0:=veil hf0
  generalize hff:C p=f at*
  have f0: ¬(f:Int)=0:=by omega
  have fl0:(0:Int)≤(f:Int):=by omega
  have fl1:(f:Int)<(L:Int):=by have:=HLe.out;omega
  clear hr
  go_wp2
  go_region
  go_wp2
  go_ret
  refine⟨rfl,?_,?_⟩
  ·exact((((HR.out.setA f hf q).setA q hqn p).setB q hqn f).setC p hpn q).drew
  ·exact(((((Only.of_below HL.out).set (vAt g (f*7+4)) _ (Or.inr rfl)).set (vAt g (q*7+4)) _ (Or.inr rfl)).set (vAt g (q*7+5)) _ (Or.inr rfl)).set (vAt g (p*7+3)) _ (Or.inr rfl)).drew
end
section
variable {w:World} {b g n rt ct:Nat} {D S I C A B:Nat→Nat} {T:Nat→Bool}
theorem put_walk (h:Rep w b g n rt ct D S I C A B T) (id d s r:Nat) (hid:id<n) (hn:n≤1024) (hct:ct≤1024) {D' S' I' C' A' B':Nat→Nat} {T':Nat→Bool}
  (hJ: ∀w1,Rep w1 b g n rt ct (upd D (id+1) d) (upd S (id+1) s) (upd I (id+1) id) (upd C (id+1) 0) (upd A (id+1) 0) (upd B (id+1) 0) (upd T (id+1) true)→vCa 238 #[vPt b,vI6 (rt:Int),vI6 ((id:Int)+1)] w1 fun e w'=>e= .returned (vI6 (r:Int))∧Rep w' b g n rt ct D' S' I' C' A' B' T'∧Only b g w1 w'):
  vCa 239 #[vPt b,.agg #[vU6 (d:Int),vU6 (s:Int),vI6 (id:Int)]] w fun e w'=>e=vRt #[]∧Rep w' b g n r (ct+1) D' S' I' C' A' B' T'∧Only b g w w':=by
 have hi:id+1≤n:=by omega
 obtain⟨cp,e0⟩:=h.sl
 have e1:=h.rt
 have e2:=h.ct
 have n0:=h.nd (id+1) hi;have n1:=h.ns (id+1) hi;have n2:=h.ni (id+1) hi;have n3:=h.nc (id+1) hi;have n4:=h.na (id+1) hi;have n5:=h.nb (id+1) hi;have n6:=h.nt (id+1) hi
 have fg:=h.fg
 have fb:=h.fb
 have hbb:=h.lt_b
 have hgg:=h.lt_g
 have hbg:=h.bg
 have hgb:g≠b:=fun e=>hbg e.symm
 have y1: ¬b=w.heap.size:=by omega
 have y2: ¬g=w.heap.size:=by omega
 have HO0:Hid (Only b g w (((((((((w.setCell (vAt g ((id+1)*7)) (vU6 (d:Int))).setCell (vAt g ((id+1)*7+1)) (vU6 (s:Int))).setCell (vAt g ((id+1)*7+2)) (vI6 (id:Int))).setCell (vAt g ((id+1)*7+3)) (vI6 0)).setCell (vAt g ((id+1)*7+4)) (vI6 0)).setCell (vAt g ((id+1)*7+5)) (vI6 0)).setCell (vAt g ((id+1)*7+6)) (.bool true)).alloc (.cells #[vU6 (d:Int),vU6 (s:Int),vI6 (id:Int)] 335)).drew)):=
  ((((((((((Only.refl b g w).set _ _ (Or.inr rfl)).set _ _ (Or.inr rfl)).set _ _ (Or.inr rfl)).set _ _ (Or.inr rfl)).set _ _ (Or.inr rfl)).set _ _ (Or.inr rfl)).set _ _ (Or.inr rfl)).alloc _).drew)
 have HR0:Hid (Rep (((((((((w.setCell (vAt g ((id+1)*7)) (vU6 (d:Int))).setCell (vAt g ((id+1)*7+1)) (vU6 (s:Int))).setCell (vAt g ((id+1)*7+2)) (vI6 (id:Int))).setCell (vAt g ((id+1)*7+3)) (vI6 0)).setCell (vAt g ((id+1)*7+4)) (vI6 0)).setCell (vAt g ((id+1)*7+5)) (vI6 0)).setCell (vAt g ((id+1)*7+6)) (.bool true)).alloc (.cells #[vU6 (d:Int),vU6 (s:Int),vI6 (id:Int)] 335)).drew) b g n rt ct (upd D (id+1) d) (upd S (id+1) s) (upd I (id+1) id) (upd C (id+1) 0) (upd A (id+1) 0) (upd B (id+1) 0) (upd T (id+1) true)):=
  ((((((((h.setD (id+1) hi d).setS (id+1) hi s).setI (id+1) hi id).setC (id+1) hi 0).setA (id+1) hi 0).setB (id+1) hi 0).setT (id+1) hi true).alloc _).drew
 have HJ:=veil hJ
 clear h hJ
 refine ge ?_
 go_wp2
 go_region
 go_wp2_with (go_at_call 238;refine(HJ.out _ HR0.out).mono ?_;rintro e w2 ⟨rfl,hr2,ho2⟩;have r1:=hr2.rt;have r2:=hr2.ct;have r3:=hr2.fb;have HR2:=veil hr2;have HO2:=veil (HO0.out.trans ho2);clear hr2 ho2)
 go_end0
 refine⟨rfl,(HR2.out.setR r).setN (ct+1),(HO2.out.set (vAt b 1) _ (Or.inl rfl)).set (vAt b 2) _ (Or.inl rfl)⟩
end
section
variable {w:World} {b g n rt ct:Nat} {D S I C A B:Nat→Nat} {T:Nat→Bool}
theorem cut_child (h:Rep w b g n rt ct D S I C A B T) (x a:Nat) (hxn:x≤n) (han:a≤n) (h1:A x=a) (h2:C a=x) (h3:B x=0):
  vCa 237 #[vPt b,vI6 x] w fun e w'=>e=vRt #[]∧Rep w' b g n rt ct D S I (upd C a 0) A B T∧Only b g w w':=by
 obtain⟨cp,e0⟩:=h.sl
 have n0:=h.nd x hxn;have n1:=h.ns x hxn;have n2:=h.ni x hxn;have n3:=h.nc x hxn;have n4:=h.na x hxn;have n5:=h.nb x hxn;have n6:=h.nt x hxn
 rw[h1] at n4
 rw[h3] at n5
 have n5':w.cell? (vAt g (x*7+5))=some (vI6 0):=n5
 have c1:=h.nc a han
 rw[h2] at c1
 have fg:=h.fg
 have hbb:=h.lt_b
 have hgg:=h.lt_g
 have y1: ¬b=w.heap.size:=by omega
 have y2: ¬g=w.heap.size:=by omega
 have xl:x<n+1:=by omega
 have al:a<n+1:=by omega
 have HR:=veil h
 clear h h1 h2 h3 n5
 refine ge ?_
 go_wp2
 go_quiet (fail)
 go_wp2
 go_region
 go_wp2
 go_end0
 exact⟨rfl,((HR.out.alloc _).drewN _).setC a han 0,(((Only.refl b g w).alloc _).drewN _).set _ _ (Or.inr rfl)⟩
end
section
variable {w:World} {b g n rt ct:Nat} {D S I C A B:Nat→Nat} {T:Nat→Bool}
theorem zero_node (h:Rep w b g n rt ct D S I C A B T) (x:Nat) (hx:x≤n):
  Rep (((((((w.setCell (vAt g (x*7)) (vU6 0)).setCell (vAt g (x*7+1)) (vU6 0)).setCell (vAt g (x*7+2)) (vI6 0)).setCell (vAt g (x*7+3)) (vI6 0)).setCell (vAt g (x*7+4)) (vI6 0)).setCell (vAt g (x*7+5)) (vI6 0)).setCell (vAt g (x*7+6)) (.bool false)) b g n rt ct (upd D x 0) (upd S x 0) (upd I x 0) (upd C x 0) (upd A x 0) (upd B x 0) (upd T x false):=
 ((((((h.setD x hx 0).setS x hx 0).setI x hx 0).setC x hx 0).setA x hx 0).setB x hx 0).setT x hx false
end
end Go.Proofs.YtnmhcgpnhlhcgaaGreatDoor.Ph
namespace Go.Proofs.YtnmhcgpnhlhcgaaGreatDoor.Ph
open Go.RowKit
section
variable {w:World} {b g n rt ct:Nat} {D S I C A B:Nat→Nat} {T:Nat→Bool}
theorem may_yes (h:Rep w b g n rt ct D S I C A B T) (id:Nat) (hn:n≤1024) (hid:id<n):
  vS 222 #[vPt b,vI6 id] w (.bool true):=by
 obtain⟨cp,e0⟩:=h.sl
 clear h
 refine ge ?_
 go_wp2
 go_ret
 simp
theorem insert_walk (h:Rep w b g n rt ct D S I C A B T) (id d s:Nat) (hn:n≤1024) (hid:id<n) (hT:T (id+1)=false) (P:World→Prop)
  (hP:vCa 239 #[vPt b,.agg #[vU6 (d:Int),vU6 (s:Int),vI6 (id:Int)]] w fun e w'=>e=vRt #[]∧P w'):
  vCa 225 #[vPt b,vI6 (id:Int),vU6 (d:Int),vU6 (s:Int)] w fun e w'=>e= .returned (vI6 0)∧P w':=by
 have HM:=veil (may_yes h id hn hid)
 have HP:=veil hP
 obtain⟨cp,e0⟩:=h.sl
 have e1:=h.nt (id+1) (by omega)
 rw[hT] at e1
 clear h hP hT
 refine ge ?_
 go_wp2_with (first
  |(go_at_call 222;refine cS HM.out ?_)
  |(go_at_call 239;refine cH HP.out fun w2 HP2=> ?_))
 go_ret
 exact⟨rfl,HP2.out⟩
theorem delete_walk (h:Rep w b g n rt ct D S I C A B T) (id:Nat) (hn:n≤1024) (hid:id<n) (hT:T (id+1)=true) (P:World→Prop)
  (hP:vCa 224 #[vPt b,vI6 ((id+1:Nat):Int)] w fun e w'=>e=vRt #[]∧P w'):
  vCa 203 #[vPt b,vI6 (id:Int)] w fun e w'=>e= .returned (vI6 0)∧P w':=by
 have HM:=veil (may_yes h id hn hid)
 have HP:=veil hP
 obtain⟨cp,e0⟩:=h.sl
 have e1:=h.nt (id+1) (by omega)
 rw[hT] at e1
 clear h hP hT
 refine ge ?_
 go_wp2_with (first
  |(go_at_call 222;refine cS HM.out ?_)
  |(go_at_call 224;refine cH HP.out fun w2 HP2=> ?_))
 go_ret
 exact⟨rfl,HP2.out⟩
theorem min_walk (h:Rep w b g n rt ct D S I C A B T) (h1:1≤rt) (h2:rt≤n):
  vCa 217 #[vPt b] w fun e w'=>e=vRt #[vI6 (I rt:Int),.bool true]∧ ∃q,w'=w.drewN q:=by
 obtain⟨cp,e0⟩:=h.sl
 have e1:=h.rt
 have e2:=h.ni rt h2
 have r0: ¬(rt:Int)=0:=by omega
 have rl:rt<n+1:=by omega
 clear h
 refine ge ?_
 go_wp2
 go_quiet (fail)
 go_wp2
 go_ret2
 exact⟨rfl,_,rfl⟩
end
end Go.Proofs.YtnmhcgpnhlhcgaaGreatDoor.Ph
namespace Go.Proofs.YtnmhcgpnhlhcgaaGreatDoor.Ph
inductive BT where
 |nil:BT
 |node (s:Nat) (c x:BT):BT
def BT.root:BT→Nat
 | .nil=>0
 | .node s _ _=>s
def BT.spots:BT→List Nat
 | .nil=>[]
 | .node s c x=>s::(c.spots++x.spots)
def Linked (C A B:Nat→Nat):Nat→BT→Prop
 |_,.nil=>True
 |p,.node s c x=>A s=p∧C s=c.root∧B s=x.root∧Linked C A B s c∧Linked C A B s x
def Tree (C A B:Nat→Nat) (r:Nat) (c:BT):Prop:=C r=c.root∧B r=0∧Linked C A B r c
theorem linked_congr {C A B C' A' B':Nat→Nat}: ∀(t:BT) (p:Nat),(∀s∈t.spots,C' s=C s∧A' s=A s∧B' s=B s)→Linked C A B p t→Linked C' A' B' p t
 | .nil,_,_,_=>trivial
 | .node s c x,p,h,hl=>by
  obtain⟨h1,h2,h3,h4,h5⟩:=hl
  obtain⟨a1,a2,a3⟩:=h s (by simp[BT.spots])
  exact⟨a2.trans h1,a1.trans h2,a3.trans h3,linked_congr c s (fun y hy=>h y (by simp[BT.spots,hy])) h4,linked_congr x s (fun y hy=>h y (by simp[BT.spots,hy])) h5⟩
theorem linked_move {C A B A':Nat→Nat} (t:BT) (p q:Nat) (hn:t.spots.Nodup) (h0:t.root∈t.spots→A' t.root=q) (h: ∀s∈t.spots,s≠t.root→A' s=A s) (hl:Linked C A B p t):Linked C A' B q t:=by
 cases t with
 |nil=>trivial
 |node s c x=>
  obtain⟨h1,h2,h3,h4,h5⟩:=hl
  simp only[BT.spots,List.nodup_cons,List.mem_append,not_or] at hn
  refine⟨h0 (by simp[BT.spots,BT.root]),h2,h3,?_,?_⟩
  ·exact linked_congr c s (fun y hy=>⟨rfl,h y (by simp[BT.spots,hy]) (fun e=>hn.1.1 (by rw[BT.root] at e;grind)),rfl⟩) h4
  ·exact linked_congr x s (fun y hy=>⟨rfl,h y (by simp[BT.spots,hy]) (fun e=>hn.1.2 (by rw[BT.root] at e;grind)),rfl⟩) h5
theorem root_mem {t:BT} (h:t≠ .nil):t.root∈t.spots:=by
 cases t with
 |nil=>grind
 |node s c x=>simp[BT.root,BT.spots]
theorem tree_join {C A B:Nat→Nat} {p q:Nat} {cp cq:BT} (hp:Tree C A B p cp) (hq:Tree C A B q cq) (hn:(p::q::(cq.spots++cp.spots)).Nodup) (h0: ∀s∈cp.spots,s≠0):
  Tree (upd C p q) (upd (if C p=0 then A else upd A (C p) q) q p) (upd B q (C p)) p (.node q cq cp):=by
 obtain⟨p1,p2,p3⟩:=hp
 obtain⟨q1,q2,q3⟩:=hq
 simp only[List.nodup_cons,List.mem_cons,List.mem_append,not_or,List.nodup_append] at hn
 obtain⟨⟨npq,npc,npd⟩,⟨nqc,nqd⟩,hc,hd,hcd⟩:=hn
 have hqp:q≠p:=fun e=>npq e.symm
 refine⟨by rw[upd_same];rfl,by grind[upd],by rw[upd_same],by grind[upd],by grind[upd],?_,?_⟩
 ·refine linked_congr cq q (fun s hs=>⟨upd_other _ _ _ _ (by grind),?_,upd_other _ _ _ _ (by grind)⟩) q3
  have hsq:s≠q:=fun e=>nqc (e▸hs)
  rw[upd_other _ _ _ _ hsq]
  by_cases hz:C p=0
  ·grind
  ·rw[if_neg hz,upd_other]
   intro e
   have hne:cp≠ .nil:=fun q=>hz (by rw[p1,q];rfl)
   grind[Ph.root_mem]
 ·have hm:Linked C (upd (if C p=0 then A else upd A (C p) q) q p) B q cp:=by
   grind[Ph.linked_move,upd]
  grind[Ph.linked_congr,upd_other]
def Ord (le:Nat→Nat→Prop):BT→Prop
 | .nil=>True
 | .node s c x=>(∀y∈c.spots,le s y)∧Ord le c∧Ord le x
theorem ord_join {le:Nat→Nat→Prop} (tr: ∀a b c,le a b→le b c→le a c) {p q:Nat} {cp cq:BT} (hpq:le p q) (hp: ∀y∈cp.spots,le p y) (hq: ∀y∈cq.spots,le q y) (op:Ord le cp) (oq:Ord le cq):
  (∀y∈(BT.node q cq cp).spots,le p y)∧Ord le (.node q cq cp):=by
 refine⟨fun y hy=> ?_,hq,oq,op⟩
 grind[Ph.BT.spots]
open Go.RowKit
attribute [local go_sem ↓] Go.wp_at_zero Go.wp_at_succ
section
variable {w:World} {b g n rt ct:Nat} {D S I C A B:Nat→Nat} {T:Nat→Bool}
theorem cut_any (h:Rep w b g n rt ct D S I C A B T) (x a f:Nat) (hxn:x≤n) (han:a≤n) (hfn:f≤n) (h1:A x=a) (h3:B x=f):
  vCa 237 #[vPt b,vI6 x] w fun e w'=>e=vRt #[]∧Rep w' b g n rt ct D S I (if C a=x then upd C a f else C) (if f=0 then A else upd A f a) (if C a=x then B else upd B a f) T∧Only b g w w':=by
 obtain⟨cp,e0⟩:=h.sl
 have n0:=h.nd x hxn;have n1:=h.ns x hxn;have n2:=h.ni x hxn;have n3:=h.nc x hxn;have n4:=h.na x hxn;have n5:=h.nb x hxn;have n6:=h.nt x hxn
 rw[h1] at n4
 rw[h3] at n5
 have c1:=h.nc a han
 have c2:=h.nb a han
 have c3:=h.na f hfn
 have fg:=h.fg
 have hbb:=h.lt_b
 have hgg:=h.lt_g
 have y1: ¬b=w.heap.size:=by omega
 have y2: ¬g=w.heap.size:=by omega
 have xl:x<n+1:=by omega
 have al:a<n+1:=by omega
 have fl:f<n+1:=by omega
 have HR:=veil h
 clear h h1 h3
 by_cases hc:C a=x
 ·have hci:(C a:Int)=(x:Int):=by omega
  by_cases hf:f=0
  ·subst hf
   rw[hc] at c1
   have n5':w.cell? (vAt g (x*7+5))=some (vI6 0):=n5
   clear hci n5
   refine ge ?_
   go_wp2
   go_quiet (fail)
   go_wp2
   go_region
   go_wp2
   go_end0
   exact⟨rfl,((HR.out.alloc _).drewN _).setC a han 0,(((Only.refl b g w).alloc _).drewN _).set _ _ (Or.inr rfl)⟩
  ·have f0: ¬(f:Int)=0:=by omega
   rw[hc] at c1
   clear hci
   refine ge ?_
   go_wp2
   go_quiet (fail)
   go_wp2
   go_region
   go_wp2
   go_region
   go_wp2
   go_end0
   exact⟨rfl,((((HR.out.alloc _).drewN _).setC a han f).setA f hfn a).drew,(((((Only.refl b g w).alloc _).drewN _).set _ _ (Or.inr rfl)).set _ _ (Or.inr rfl)).drew⟩
 ·have hci: ¬(C a:Int)=(x:Int):=by omega
  by_cases hf:f=0
  ·subst hf
   have n5':w.cell? (vAt g (x*7+5))=some (vI6 0):=n5
   clear n5
   refine ge ?_
   go_wp2
   go_quiet (fail)
   go_wp2
   go_region
   go_wp2
   go_end0
   exact⟨rfl,((HR.out.alloc _).drewN _).setB a han 0,(((Only.refl b g w).alloc _).drewN _).set _ _ (Or.inr rfl)⟩
  ·have f0: ¬(f:Int)=0:=by omega
   refine ge ?_
   go_wp2
   go_quiet (fail)
   go_wp2
   go_region
   go_wp2
   go_region
   go_wp2
   go_end0
   exact⟨rfl,((((HR.out.alloc _).drewN _).setB a han f).setA f hfn a).drew,(((((Only.refl b g w).alloc _).drewN _).set _ _ (Or.inr rfl)).set _ _ (Or.inr rfl)).drew⟩
end
end Go.Proofs.YtnmhcgpnhlhcgaaGreatDoor.Ph
namespace Go.Proofs.YtnmhcgpnhlhcgaaGreatDoor.Ph
def BT.cut (s:Nat):BT→BT
 | .nil=> .nil
 | .node r c x=>if r=s then x else .node r (c.cut s) (x.cut s)
theorem cut_out (s:Nat): ∀t:BT,s ∉ t.spots→t.cut s=t
 | .nil,_=>rfl
 | .node r c x,h=>by
  simp only[BT.spots,List.mem_cons,List.mem_append,not_or] at h
  rw[BT.cut,if_neg (by omega),cut_out s c h.2.1,cut_out s x h.2.2]
theorem cut_root (s:Nat) (t:BT) (h:t.root≠s):(t.cut s).root=t.root:=by
 cases t with
 |nil=>rfl
 |node r c x=>rw[BT.cut,if_neg (show¬r=s from h)];rfl
theorem linked_near {C A B:Nat→Nat}: ∀(t:BT) (p s:Nat),Linked C A B p t→s∈t.spots→
  ((s=t.root∧A s=p)∨A s∈t.spots)∧(B s=0∨B s∈t.spots)
 | .nil,_,_,_,h=>by simp[BT.spots] at h
 | .node r c x,p,s,hl,hs=>by
  obtain⟨h1,h2,h3,h4,h5⟩:=hl
  simp only[BT.spots,List.mem_cons,List.mem_append] at hs⊢
  rcases hs with rfl|hs|hs
  ·refine⟨.inl ⟨rfl,h1⟩,?_⟩
   rw[h3]
   cases x with
   |nil=>exact .inl rfl
   |node y cy xy=>grind[Ph.BT.root,Ph.BT.spots]
  ·obtain⟨a,b⟩:=linked_near c r s h4 hs
   grind
  ·obtain⟨a,b⟩:=linked_near x r s h5 hs
   grind
def cutC (C A B:Nat→Nat) (s:Nat):Nat→Nat:=if C (A s)=s then upd C (A s) (B s) else C
def cutB (C A B:Nat→Nat) (s:Nat):Nat→Nat:=if C (A s)=s then B else upd B (A s) (B s)
def cutA (_C A B:Nat→Nat) (s:Nat):Nat→Nat:=if B s=0 then A else upd A (B s) (A s)
theorem cutC_off {C A B:Nat→Nat} {s y:Nat} (h:y≠A s):cutC C A B s y=C y:=by
 rw[cutC];grind[upd]
theorem cutB_off {C A B:Nat→Nat} {s y:Nat} (h:y≠A s):cutB C A B s y=B y:=by
 rw[cutB];grind[upd]
theorem cutA_off {C A B:Nat→Nat} {s y:Nat} (h:B s=0∨y≠B s):cutA C A B s y=A y:=by
 rw[cutA];grind[upd]
theorem linked_cut {C A B:Nat→Nat}: ∀(t:BT) (p s:Nat),Linked C A B p t→(p::t.spots).Nodup→(∀y∈t.spots,y≠0)→s∈t.spots→
  Linked (cutC C A B s) (cutA C A B s) (cutB C A B s) p (t.cut s)∧(s=t.root→(t.cut s).root=B s)
 | .nil,_,_,_,_,_,h=>by simp[BT.spots] at h
 | .node r c x,p,s,hl,hn,h0,hs=>by
  obtain⟨h1,h2,h3,h4,h5⟩:=hl
  simp only[BT.spots,List.nodup_cons,List.mem_cons,List.mem_append,not_or,List.nodup_append] at hn hs
  obtain⟨⟨npr,npc,npx⟩,⟨nrc,nrx⟩,hc,hx,hcx⟩:=hn
  have h0c: ∀y∈c.spots,y≠0:=fun y hy=>h0 y (by simp[BT.spots,hy])
  have h0x: ∀y∈x.spots,y≠0:=fun y hy=>h0 y (by simp[BT.spots,hy])
  have ncr:=List.nodup_cons.2 ⟨nrc,hc⟩
  have nxr:=List.nodup_cons.2 ⟨nrx,hx⟩
  rcases hs with rfl|hs|hs
  ·have e:(BT.node s c x).cut s=x:=by rw[BT.cut,if_pos rfl]
   rw[e]
   refine⟨?_,fun _=>h3.symm⟩
   have hm:Linked C (cutA C A B s) B p x:=by
    refine linked_move x s p hx (fun hr=> ?_) (fun y hy hne=>cutA_off (by omega)) h5
    have hz:B s≠0:=by grind
    rw[cutA,if_neg hz,h3,upd_same,h1]
   grind[Ph.linked_congr,Ph.cutC_off,Ph.cutB_off]
  ·have hrs:r≠s:=fun e=>nrc (e▸hs)
   have nsx:s ∉ x.spots:=fun q=>(by grind)
   have e:(BT.node r c x).cut s= .node r (c.cut s) x:=by rw[BT.cut,if_neg hrs,cut_out s x nsx]
   rw[e]
   refine⟨?_,fun q=>absurd q.symm hrs⟩
   obtain⟨i1,i2⟩:=linked_cut c r s h4 ncr h0c hs
   obtain⟨a,b⟩:=linked_near c r s h4 hs
   have hbx: ∀y∈x.spots,B s=0∨y≠B s:=fun y hy=>(by grind)
   have hax: ∀y∈x.spots,y≠A s:=fun y hy q=>by
    grind
   refine⟨?_,?_,?_,i1,linked_congr x r (fun y hy=>⟨cutC_off (hax y hy),cutA_off (hbx y hy),cutB_off (hax y hy)⟩) h5⟩
   ·rw[cutA_off (y:=r) (s:=s) (by grind)];exact h1
   ·by_cases hq:s=c.root
    ·have ha:A s=r:=by
      rcases a with ⟨_,a⟩|a
      ·exact a
      ·cases c with
       |nil=>simp[BT.spots] at hs
       |node z cz xz=>rw[BT.root] at hq;rw[hq];exact h4.1
     rw[cutC,if_pos (by grind),ha,upd_same,i2 hq]
    grind[Ph.cutC_off,Ph.cut_root]
   ·by_cases hq:s=c.root
    ·have ha:A s=r:=by
      cases c with
       |nil=>simp[BT.spots] at hs
       |node z cz xz=>rw[BT.root] at hq;rw[hq];exact h4.1
     rw[cutB,if_pos (by grind)];exact h3
    grind[Ph.cutB_off]
  ·have hrs:r≠s:=fun e=>nrx (e▸hs)
   have nsc:s ∉ c.spots:=fun q=>(by grind)
   have e:(BT.node r c x).cut s= .node r c (x.cut s):=by rw[BT.cut,if_neg hrs,cut_out s c nsc]
   rw[e]
   refine⟨?_,fun q=>absurd q.symm hrs⟩
   obtain⟨i1,i2⟩:=linked_cut x r s h5 nxr h0x hs
   obtain⟨a,b⟩:=linked_near x r s h5 hs
   have hbc: ∀y∈c.spots,B s=0∨y≠B s:=fun y hy=>(by grind)
   have hac: ∀y∈c.spots,y≠A s:=fun y hy q=>by
    grind
   have hcs:c.root≠s:=fun q=>by
    cases c with
    |nil=>exact h0x s hs q.symm
    |node z cz xz=>grind[Ph.BT.root,Ph.BT.spots]
   refine⟨?_,?_,?_,linked_congr c r (fun y hy=>⟨cutC_off (hac y hy),cutA_off (hbc y hy),cutB_off (hac y hy)⟩) h4,i1⟩
   ·rw[cutA_off (y:=r) (s:=s) (by grind)];exact h1
   ·by_cases ha:r=A s
    ·rw[cutC,if_neg (by grind)];exact h2
    ·rw[cutC_off ha];exact h2
   ·by_cases hq:s=x.root
    ·have ha:A s=r:=by
      cases x with
       |nil=>simp[BT.spots] at hs
       |node z cz xz=>rw[BT.root] at hq;rw[hq];exact h5.1
     rw[cutB,if_neg (by grind),ha,upd_same,i2 hq]
    grind[Ph.cutB_off,Ph.cut_root]
theorem cut_spots (s:Nat): ∀(t:BT) (y:Nat),y∈(t.cut s).spots→y∈t.spots
 | .nil,_,h=>h
 | .node r c x,y,h=>by
  rw[BT.cut] at h
  split at h
  ·simp[BT.spots,h]
  ·simp only[BT.spots,List.mem_cons,List.mem_append] at h⊢
   rcases h with h|h|h
   ·omega
   ·exact .inr (.inl (cut_spots s c y h))
   ·exact .inr (.inr (cut_spots s x y h))
theorem ord_cut {le:Nat→Nat→Prop} (s:Nat): ∀(t:BT),Ord le t→Ord le (t.cut s)
 | .nil,_=>trivial
 | .node r c x,⟨h1,h2,h3⟩=>by
  rw[BT.cut]
  split
  ·exact h3
  ·exact⟨fun y hy=>h1 y (cut_spots s c y hy),ord_cut s c h2,ord_cut s x h3⟩
def Row (C A B:Nat→Nat):BT→Prop
 | .nil=>True
 | .node s c x=>C s=c.root∧B s=x.root∧Linked C A B s c∧Row C A B x
theorem linked_row {C A B:Nat→Nat}: ∀(t:BT) (p:Nat),Linked C A B p t→Row C A B t
 | .nil,_,_=>trivial
 | .node s _ x,_,⟨_,h2,h3,h4,h5⟩=>⟨h2,h3,h4,linked_row x s h5⟩
theorem row_congr {C A B C' A' B':Nat→Nat}: ∀(t:BT),(∀s∈t.spots,C' s=C s∧A' s=A s∧B' s=B s)→Row C A B t→Row C' A' B' t
 | .nil,_,_=>trivial
 | .node s c x,h,⟨h2,h3,h4,h5⟩=>by
  obtain⟨a1,_,a3⟩:=h s (by simp[BT.spots])
  exact⟨a1.trans h2,a3.trans h3,linked_congr c s (fun y hy=>h y (by simp[BT.spots,hy])) h4,row_congr x (fun y hy=>h y (by simp[BT.spots,hy])) h5⟩
def joC (C:Nat→Nat) (p q:Nat):Nat→Nat:=upd C p q
def joA (C A:Nat→Nat) (p q:Nat):Nat→Nat:=upd (if C p=0 then A else upd A (C p) q) q p
def joB (C B:Nat→Nat) (p q:Nat):Nat→Nat:=upd B q (C p)
theorem jo_off {C A B:Nat→Nat} {p q:Nat} {cp:BT} (h:C p=cp.root) {y:Nat} (h1:y≠p) (h2:y≠q) (h3:y ∉ cp.spots):
  joC C p q y=C y∧joA C A p q y=A y∧joB C B p q y=B y:=by
 refine⟨upd_other _ _ _ _ h1,?_,upd_other _ _ _ _ h2⟩
 rw[joA,upd_other _ _ _ _ h2]
 by_cases hz:C p=0
 ·grind
 ·rw[if_neg hz,upd_other]
  intro e
  have hne:cp≠ .nil:=fun q=>hz (by rw[h,q];rfl)
  grind[Ph.root_mem]
theorem linked_join {C A B:Nat→Nat} {p q:Nat} {cp cq:BT} (p1:C p=cp.root) (p3:Linked C A B p cp) (q1:C q=cq.root) (q3:Linked C A B q cq) (hn:(p::q::(cq.spots++cp.spots)).Nodup) (h0: ∀s∈cp.spots,s≠0):
  Linked (joC C p q) (joA C A p q) (joB C B p q) p (.node q cq cp):=by
 have hb: ∀s∈p::(cq.spots++cp.spots),s≠q:=by
  grind
 have key:=tree_join (C:=C) (A:=A) (B:=upd (upd B p 0) q 0) (p:=p) (q:=q) (cp:=cp) (cq:=cq)
  ⟨p1,by grind[upd],linked_congr cp p (fun s hs=>⟨rfl,rfl,by
   grind[upd]⟩) p3⟩
  ⟨q1,upd_same _ _ _,linked_congr cq q (fun s hs=>⟨rfl,rfl,by
   grind[upd]⟩) q3⟩ hn h0
 refine linked_congr (.node q cq cp) p (fun s hs=>⟨rfl,rfl,?_⟩) key.2.2
 simp only[BT.spots,List.mem_cons,List.mem_append] at hs
 by_cases e:s=q
 ·subst e;rw[joB,upd_same,upd_same]
 ·have hsp:s≠p:=by
   grind
  rw[joB,upd_other _ _ _ _ e,upd_other _ _ _ _ e,upd_other _ _ _ _ e,upd_other _ _ _ _ hsp]
theorem row_step {C A B:Nat→Nat} {p q:Nat} {cp cq rest m:BT} (p1:C p=cp.root) (p3:Linked C A B p cp) (q1:C q=cq.root) (q3:Linked C A B q cq) (hr:Row C A B rest) (hm:Row C A B m)
  (hn:(p::q::(cq.spots++cp.spots)).Nodup) (h0: ∀s∈cp.spots,s≠0)
  (hd: ∀s,s∈rest.spots∨s∈m.spots→s≠p∧s≠q∧s ∉ cp.spots):
  Row (joC C p q) (joA C A p q) (upd (joB C B p q) p m.root) (.node p (.node q cq cp) m)∧Row (joC C p q) (joA C A p q) (upd (joB C B p q) p m.root) rest∧
  ∀y,y≠p→y≠q→y ∉ cp.spots→joC C p q y=C y∧joA C A p q y=A y∧upd (joB C B p q) p m.root y=B y:=by
 have hl:=linked_join p1 p3 q1 q3 hn h0
 have off: ∀y,y≠p→y≠q→y ∉ cp.spots→joC C p q y=C y∧joA C A p q y=A y∧upd (joB C B p q) p m.root y=B y:=by
  grind[Ph.jo_off,upd]
 refine⟨⟨by rw[joC,upd_same];rfl,upd_same _ _ _,?_,row_congr m (fun s hs=> ?_) hm⟩,row_congr rest (fun s hs=> ?_) hr,off⟩
 ·refine linked_congr (.node q cq cp) p (fun s hs=>⟨rfl,rfl,upd_other _ _ _ _ ?_⟩) hl
  intro e;subst e
  simp only[BT.spots,List.nodup_cons,List.mem_cons,List.mem_append,not_or] at hn hs
  grind
 ·grind
 grind
theorem row_odd {C A B:Nat→Nat} {p:Nat} {cp m:BT} (p1:C p=cp.root) (p3:Linked C A B p cp) (hm:Row C A B m) (hc:p ∉ cp.spots) (hd:p ∉ m.spots):
  Row C A (upd B p m.root) (.node p cp m):=
 ⟨p1,upd_same _ _ _,linked_congr cp p (fun _ hs=>⟨rfl,rfl,upd_other _ _ _ _ (by grind)⟩) p3,row_congr m (fun _ hs=>⟨rfl,rfl,upd_other _ _ _ _ (by grind)⟩) hm⟩
def BT.wide:BT→Nat
 | .nil=>0
 | .node _ _ x=>x.wide+1
open Go.RowKit
def Le (D S I:Nat→Nat) (a b:Nat):Prop:=bef (D b) (S b) (I b) (D a) (S a) (I a)=false
theorem le_iff {D S I:Nat→Nat} {a b:Nat}:Le D S I a b↔D a<D b∨(D a=D b∧(S a<S b∨(S a=S b∧I a≤I b))):=by
 rw[Le,bef]
 grind
theorem le_trans {D S I:Nat→Nat} (a b c:Nat) (h1:Le D S I a b) (h2:Le D S I b c):Le D S I a c:=by
 rw[le_iff] at*;omega
theorem le_of_before {D S I:Nat→Nat} {a b:Nat} (h:bef (D a) (S a) (I a) (D b) (S b) (I b)=true):Le D S I a b:=by
 grind[Ph.le_iff,Ph.bef]
section
variable {w:World} {b g n rt ct:Nat} {D S I C A B:Nat→Nat} {T:Nat→Bool}
theorem join_any (h:Rep w b g n rt ct D S I C A B T) (p q:Nat) (hp:1≤p) (hpn:p≤n) (hq:1≤q) (hqn:q≤n) (hf:C p≤n) (hg:C q≤n) (hfq:C p≠q) (hgp:C q≠p):
  vCa 238 #[vPt b,vI6 p,vI6 q] w fun e w'=> ∃u v:Nat,((u=p∧v=q)∨(u=q∧v=p))∧Le D S I u v∧e= .returned (vI6 u)∧
   Rep w' b g n rt ct D S I (joC C u v) (joA C A u v) (joB C B u v) T∧Only b g w w':=by
 cases hb:bef (D q) (S q) (I q) (D p) (S p) (I p) with
 |false=>
  refine(join_keep h p q hp hpn hq hqn hf hfq hb).mono ?_
  rintro e w' ⟨he,hr,ho⟩
  exact⟨p,q,mK,hb,he,hr,ho⟩
 |true=>
  refine(join_swap h q p hq hqn hp hpn hg hgp hb).mono ?_
  rintro e w' ⟨he,hr,ho⟩
  exact⟨q,p,(by simp),le_of_before hb,he,hr,ho⟩
end
structure PI (w:World) (b g n rt ct:Nat) (D S I:Nat→Nat) (T:Nat→Bool) (L:List Nat) (C0 A0 B0:Nat→Nat) (wr:World) (t m:BT):Prop where
 lk: ∃C A B,Rep wr b g n rt ct D S I C A B T∧Row C A B t∧Row C A B m∧ ∀y,y ∉ L→C y=C0 y∧A y=A0 y∧B y=B0 y
 o1:Ord (Le D S I) t
 o2:Ord (Le D S I) m
 pm:(t.spots++m.spots).Perm L
 on:Only b g w wr
structure Spots (n:Nat) (L:List Nat):Prop where
 nd:L.Nodup
 le: ∀y∈L,1≤y∧y≤n
def behindOf (w:World) (g r:Nat):Nat:=match w.cell? (vAt g (r*7+5)) with
 |some v=>(intOf v).toNat
 |none=>0
def chain (w:World) (g:Nat):Nat→Nat→Nat
 |0,_=>0
 |f+1,r=>if r=0 then 0 else chain w g f (behindOf w g r)+1
theorem chain_wide {w:World} {b g n rt ct:Nat} {D S I C A B:Nat→Nat} {T:Nat→Bool} (h:Rep w b g n rt ct D S I C A B T): ∀(t:BT) (f:Nat),Row C A B t→(∀y∈t.spots,1≤y∧y≤n)→t.wide≤f→chain w g f t.root=t.wide
 | .nil,f,_,_,_=>by
  cases f with
  |zero=>rfl
  |succ f=>rfl
 | .node s c x,f,hr,hs,hf=>by
  cases f with
  |zero=>simp[BT.wide] at hf
  |succ f=>
   obtain⟨h1,h2,h3,h4⟩:=hr
   obtain⟨a1,a2⟩:=hs s (by exact mK)
   have hb:behindOf w g s=x.root:=by
    rw[behindOf,h.nb s a2,h2];rfl
   rw[BT.root,chain,if_neg (by omega),hb,BT.wide,chain_wide h x f h4 (fun y hy=>hs y (by simp[BT.spots,hy])) (by rw[BT.wide] at hf;omega)]
theorem wide_le: ∀t:BT,t.wide≤t.spots.length
 | .nil=>lzr
 | .node s c x=>by have:=wide_le x;grind[Ph.BT.wide,Ph.BT.spots]
section
variable {w:World} {b g n rt ct:Nat} {D S I:Nat→Nat} {T:Nat→Bool} {L:List Nat} {C0 A0 B0:Nat→Nat} {wr:World} {t m:BT}
theorem PI.chain (h:PI w b g n rt ct D S I T L C0 A0 B0 wr t m) (hL:Spots n L):chain wr g L.length t.root=t.wide:=by
 obtain⟨C,A,B,hr,h1,h2,h3⟩:=h.lk
 refine chain_wide hr t _ h1 (fun y hy=>hL.le y (h.pm.mem_iff.1 (by simp[hy]))) ?_
 have:=h.pm.length_eq
 have:=wide_le t
 grind
end
section
variable {w:World} {b g n rt ct:Nat} {D S I:Nat→Nat} {T:Nat→Bool} {L:List Nat} {C0 A0 B0:Nat→Nat} {wr:World} {C A B:Nat→Nat}
theorem step_two {a c:Nat} {ca cc rest m:BT} (hL:Spots n L) (h1:Row C A B (.node a ca (.node c cc rest))) (h2:Row C A B m) (off: ∀y,y ∉ L→C y=C0 y∧A y=A0 y∧B y=B0 y)
  (o1:Ord (Le D S I) (.node a ca (.node c cc rest))) (o2:Ord (Le D S I) m) (pm:((BT.node a ca (.node c cc rest)).spots++m.spots).Perm L)
  {u v:Nat} (huv:(u=a∧v=c)∨(u=c∧v=a)) (hle:Le D S I u v) (hr:Rep wr b g n rt ct D S I (joC C u v) (joA C A u v) (joB C B u v) T) (ho:Only b g w wr):
  ∃m':BT,m'.root=u∧m'.wide=m.wide+1∧PI w b g n rt ct D S I T L C0 A0 B0 (wr.setCell (vAt g (u*7+5)) (vI6 (m.root:Int))) rest m':=by
 obtain⟨cu,cv,p1,p3,q1,q3,hou,hov,hcu,hcv,hperm⟩: ∃cu cv:BT,C u=cu.root∧Linked C A B u cu∧C v=cv.root∧Linked C A B v cv∧(∀y∈cu.spots,Le D S I u y)∧(∀y∈cv.spots,Le D S I v y)∧Ord (Le D S I) cu∧Ord (Le D S I) cv∧(rest.spots++(BT.node u (.node v cv cu) m).spots).Perm L:=by
  obtain⟨a1,a2,a3,c1,c2,c3,_⟩:=h1
  obtain⟨oa,oca,oc,occ,_⟩:=o1
  rcases huv with ⟨rfl,rfl⟩|⟨rfl,rfl⟩
  ·refine⟨ca,cc,a1,a3,c1,c3,oa,oc,oca,occ,List.Perm.trans ?_ pm⟩
   grind[Ph.BT.spots]
  ·refine⟨cc,ca,c1,c3,a1,a3,oc,oa,occ,oca,List.Perm.trans ?_ pm⟩
   grind[Ph.BT.spots]
 have hnd:=hperm.nodup_iff.2 hL.nd
 have hmem:=fun y (hy:y∈rest.spots++(BT.node u (.node v cv cu) m).spots)=>hperm.mem_iff.1 hy
 have hrest:=h1.2.2.2.2.2.2
 have hnm:((u::v::(cv.spots++cu.spots))++m.spots).Nodup:=(List.nodup_append.1 hnd).2.1
 have hn:=(List.nodup_append.1 hnm).1
 have hd: ∀s,s∈rest.spots∨s∈m.spots→s≠u∧s≠v∧s ∉ cu.spots:=by
  intro s hs
  rcases hs with hs|hs
  ·have hy:=(List.nodup_append.1 hnd).2.2 s hs
   grind[Ph.BT.spots]
  grind
 have hz: ∀s∈cu.spots,s≠0:=fun s hs=>by
  have:=(hL.le s (hmem s (by simp[BT.spots,hs]))).1;omega
 obtain⟨k1,k2,k3⟩:=row_step p1 p3 q1 q3 hrest h2 hn hz hd
 have uL:=hmem u (by simp[BT.spots])
 have vL:=hmem v (by simp[BT.spots])
 refine⟨.node u (.node v cv cu) m,rfl,rfl,⟨⟨_,_,_,hr.setB u (hL.le u uL).2 m.root,k2,k1,fun y hy=> ?_⟩,o1.2.2.2.2,?_,hperm,ho.set _ _ (Or.inr rfl)⟩⟩
 ·obtain⟨x1,x2,x3⟩:=k3 y (by grind) (by grind) (fun e=>hy (hmem y (by simp[BT.spots,e])))
  grind
 ·obtain⟨j1,j2⟩:=ord_join le_trans hle hou hov hcu hcv
  exact⟨j1,j2,o2⟩
theorem step_odd {a:Nat} {ca m:BT} (hL:Spots n L) (h1:Row C A B (.node a ca .nil)) (h2:Row C A B m) (off: ∀y,y ∉ L→C y=C0 y∧A y=A0 y∧B y=B0 y)
  (o1:Ord (Le D S I) (.node a ca .nil)) (o2:Ord (Le D S I) m) (pm:((BT.node a ca .nil).spots++m.spots).Perm L) (hr:Rep wr b g n rt ct D S I C A B T) (ho:Only b g w wr):
  PI w b g n rt ct D S I T L C0 A0 B0 (wr.setCell (vAt g (a*7+5)) (vI6 (m.root:Int))) .nil (.node a ca m):=by
 have hnd:=pm.nodup_iff.2 hL.nd
 have aL:a∈L:=pm.mem_iff.1 (by simp[BT.spots])
 obtain⟨a1,a2,a3,_⟩:=h1
 refine⟨⟨_,_,_,hr.setB a (hL.le a aL).2 m.root,trivial,row_odd a1 a3 h2 ?_ ?_,fun y hy=> ?_⟩,trivial,⟨o1.1,o1.2.1,o2⟩,?_,ho.set _ _ (Or.inr rfl)⟩
 ·simp only[BT.spots,List.append_nil,List.cons_append,List.nodup_cons,List.mem_append,not_or] at hnd;grind
 ·simp only[BT.spots,List.append_nil,List.cons_append,List.nodup_cons,List.mem_append,not_or] at hnd;grind
 ·grind[upd]
 ·simpa [BT.spots] using pm
end
attribute [local go_sem ↓] Go.wp_at_zero Go.wp_at_succ
def Cnt (W:Nat) (t m:BT):Prop:=W≤t.wide+2*m.wide∧1≤W∧(t.wide+2*m.wide≤W∨(t= .nil∧3≤W∧2*m.wide≤W+1))
theorem PI.turn {w:World} {b g n rt ct:Nat} {D S I C0 A0 B0:Nat→Nat} {T:Nat→Bool} {L:List Nat} {wr:World} {m:BT} (h:PI w b g n rt ct D S I T L C0 A0 B0 wr .nil m):PI w b g n rt ct D S I T L C0 A0 B0 wr m .nil:=by
 exact mK
section
variable {w:World} {b g n rt ct:Nat} {D S I C A B:Nat→Nat} {T:Nat→Bool}
theorem pair_any (t0:BT) (L:List Nat) (hL:Spots n L) (hB0:B 0=0) (h0:PI w b g n rt ct D S I T L C A B w t0 .nil):
  vCa 236 #[vPt b,vI6 (t0.root:Int)] w fun e w'=> ∃t:BT,t.wide≤1∧e= .returned (vI6 (t.root:Int))∧PI w b g n rt ct D S I T L C A B w' t .nil:=by
 have HL:=veil hL
 have HB0:=veil hB0
 have H0:=veil h0
 clear h0 hL hB0
 refine ge ?_
 go_wp2
 go_step3
 go_wp2
 go_step3
 go_wp2
 go_loopw [1] (fun i wr=> ∃t:BT,i=vI6 (t.root:Int)∧Hid (PI w b g n rt ct D S I T L C A B wr t .nil)) (fun i wr=>chain wr g L.length (intOf i).toNat)
 case atStart=>grind
 case round=>
  obtain⟨t,rfl,ht⟩:=hrel
  cases t with
  |nil=>
   have HN:Hid ((BT.nil).root=0):=veil rfl
   have hz:(((BT.nil).root:Nat):Int)=0:=rfl
   rw[hz]
   go_wp2
   rw[Exit.noGoto_ret]
   go_ret
   exact⟨.nil,by decide,rfl,ht.out⟩
  |node a ca x=>
   have ha:=HL.out.le a (ht.out.pm.mem_iff.1 (by simp[BT.spots]))
   have hai: ¬(a:Int)=0:=by omega
   have hroot:(((BT.node a ca x).root:Nat):Int)=(a:Int):=rfl
   have HW:=veil (ht.out.chain HL.out)
   have hab:((a:Int) !=0)=true:=by grind
   rw[hroot]
   go_wp2
   clear hab
   go_loopw [1,5] (fun i k wr2=> ∃t m:BT,i=vI6 (t.root:Int)∧k=vI6 (m.root:Int)∧Hid (PI w b g n rt ct D S I T L C A B wr2 t m)∧Hid (Cnt (BT.node a ca x).wide t m)) (fun i _ wr2=>chain wr2 g L.length (intOf i).toNat)
   case atStart=>exact⟨.node a ca x,.nil,rfl,rfl,ht,by refine⟨?_,?_,.inl ?_⟩<;>simp[BT.wide]⟩
   case round=>
    obtain⟨t,m,rfl,rfl,hp,hc⟩:=hrel
    cases t with
    |nil=>
     have hz:(((BT.nil).root:Nat):Int)=0:=rfl
     rw[hz]
     go_wp2
     have hp':=hp.out.turn
     refine⟨⟨m,rfl,hp'⟩,?_⟩
     have e1:(intOf (Value.int IntKind.i64 (m.root:Int))).toNat=m.root:=by rfl
     have e2:(intOf (Value.int IntKind.i64 (a:Int))).toNat=(BT.node a ca x).root:=by rfl
     rw[e1,e2,HW.out,hp'.chain HL.out]
     obtain⟨q1,q2,q3⟩:=hc.out
     omega
    |node r cr rest=>
     have hrr:=HL.out.le r (hp.out.pm.mem_iff.1 (by simp[BT.spots]))
     have hri: ¬(r:Int)=0:=by omega
     have hroot2:(((BT.node r cr rest).root:Nat):Int)=(r:Int):=rfl
     have HM:=veil (hp.out.chain HL.out)
     obtain⟨C1,A1,B1,hR,hrow,hrm,hoff⟩:=hp.out.lk
     obtain⟨cp,e0⟩:=hR.sl
     have e1:=hR.nb r hrr.2
     have e2:=hrow.2.1
     rw[e2] at e1
     have rl:r<n+1:=by omega
     have fg:=hR.fg
     have HR:=veil hR
     have HRow:=veil hrow
     have HRm:=veil hrm
     have HOff:=veil hoff
     clear hR hrow hrm hoff e2
     rw[hroot2]
     cases rest with
     |nil=>
      have e1':wr.cell? (vAt g (r*7+5))=some (vI6 0):=e1
      clear e1
      cases m with
      |nil=>
       have hz:(((BT.nil).root:Nat):Int)=0:=rfl
       rw[hz]
       go_wp2
       go_quiet (fail)
       go_wp2
       show Exit.noGoto _ Exit.ret _ _
       rw[Exit.noGoto_ret]
       go_ret
       exact⟨.node r cr .nil,by simp[BT.wide],rfl,⟨⟨C1,A1,B1,HR.out.drewN _,HRow.out,trivial,HOff.out⟩,hp.out.o1,trivial,hp.out.pm,hp.out.on.drewN _⟩⟩
      |node mr mc mx=>
       have hmm:=HL.out.le mr (hp.out.pm.mem_iff.1 (by simp[BT.spots]))
       have hmi: ¬(mr:Int)=0:=by omega
       have hroot3:(((BT.node mr mc mx).root:Nat):Int)=(mr:Int):=rfl
       have z1:wr.cell? (vAt g (0*7+5))=some (vI6 0):=by
        have:=HR.out.nb 0 (Nat.zero_le _)
        rw[((HOff.out 0 (fun hh=>by have:=(HL.out.le 0 hh).1;omega)).2.2).trans HB0.out] at this
        omega
       have z2:=z1
       clear z1
       rw[hroot3]
       go_wp2
       go_quiet (fail)
       go_wp2_with (go_at_call 238;refine cS (join_right r hrr.1 _ b) ?_)
       have HS:=veil (step_odd HL.out HRow.out HRm.out HOff.out hp.out.o1 hp.out.o2 hp.out.pm (HR.out.drewN nq) (hp.out.on.drewN nq))
       go_roundw
       case rel=>
        exact⟨BT.nil,.node r cr (.node mr mc mx),rfl,rfl,HS,by
         obtain⟨q1,q2,q3⟩:=hc.out
         rcases q3 with q3|⟨q3,_⟩
         ·simp only[Cnt,BT.wide] at*
          refine⟨?_,?_,.inr ⟨trivial,?_,?_⟩⟩<;>omega
         ·exact absurd q3 (by simp)⟩
       case measure=>
        have e1:(intOf (Value.int IntKind.i64 (r:Int))).toNat=(BT.node r cr .nil).root:=by rfl
        have e2:(intOf (Value.int IntKind.i64 0)).toNat=(BT.nil).root:=by rfl
        have hs:=HS.out.chain HL.out
        have hm:=HM.out
        rw[←e2] at hs
        rw[←e1] at hm
        show chain _ g L.length (intOf (Value.int IntKind.i64 0)).toNat<chain wr g L.length (intOf (Value.int IntKind.i64 (r:Int))).toNat
        have hs':chain ((wr.drewN nq).setCell (vAt g (r*7+5)) (Value.int IntKind.i64 (mr:Int))) g L.length (intOf (Value.int IntKind.i64 0)).toNat=_:=hs
        rw[hs',hm]
        simp[BT.wide]
     |node r2 cr2 rest2=>
      have hr2:=HL.out.le r2 (hp.out.pm.mem_iff.1 (by simp[BT.spots]))
      have hr2i: ¬(r2:Int)=0:=by omega
      have r2l:r2<n+1:=by omega
      have e1':wr.cell? (vAt g (r*7+5))=some (vI6 (r2:Int)):=e1
      have e3:=HR.out.nb r2 hr2.2
      have e4:=HRow.out.2.2.2.2.1
      rw[e4] at e3
      clear e1 e4
      have hle: ∀(c:BT),(∀y∈c.spots,y∈L)→c.root≤n:=fun c h=>by
       cases c with
       |nil=>exact Nat.zero_le _
       |node s _ _=>exact(HL.out.le s (h s (by simp[BT.spots]))).2
      have hnd:=hp.out.pm.nodup_iff.2 HL.out.nd
      have hne: ∀(c:BT) (q:Nat),q ∉ c.spots→q≠0→c.root≠q:=fun c q h h0 e=>by
       cases c with
       |nil=>exact h0 e.symm
       |node s _ _=>rw[BT.root] at e;exact h (by simp[BT.spots,e])
      have hmem:=fun y (hy:y∈(BT.node r cr (.node r2 cr2 rest2)).spots)=>hp.out.pm.mem_iff.1 (List.mem_append.2 (.inl hy))
      have k1:C1 r≤n:=by rw[HRow.out.1];exact hle cr (fun y hy=>hmem y (by simp[BT.spots,hy]))
      have k2:C1 r2≤n:=by rw[HRow.out.2.2.2.1];exact hle cr2 (fun y hy=>hmem y (by simp[BT.spots,hy]))
      have nd1:=(List.nodup_append.1 hnd).1
      simp only[BT.spots,List.nodup_cons,List.nodup_append,List.mem_cons,List.mem_append,not_or] at nd1
      have k3:C1 r≠r2:=by rw[HRow.out.1];grind
      have k4:C1 r2≠r:=by rw[HRow.out.2.2.2.1];grind
      have HJ:=veil fun w1 (hh:Rep w1 b g n rt ct D S I C1 A1 B1 T)=>join_any hh r r2 hrr.1 hrr.2 hr2.1 hr2.2 k1 k2 k3 k4
      clear k1 k2 k3 k4 nd1 hne hle hmem hnd
      go_wp2
      go_quiet (fail)
      go_wp2_with (go_at_call 238;refine(HJ.out _ (HR.out.drewN nq)).mono ?_;rintro e w3 ⟨u,v,huv,hle,rfl,hr3,ho3⟩;obtain⟨cp3,e30⟩:=hr3.sl;have fg3:=hr3.fg;have ul:u<n+1:=(by omega);have e31:=hr3.nb u (by omega);have HR3:=veil hr3;have HO3:=veil ho3;have HUV:=veil huv;have HLE:=veil hle;clear hr3 ho3 huv hle)
      have HS:=veil (step_two HL.out HRow.out HRm.out HOff.out hp.out.o1 hp.out.o2 hp.out.pm HUV.out HLE.out HR3.out ((hp.out.on.drewN nq).trans HO3.out))
      obtain⟨m',hm1,hm2,hm3⟩:=HS.out
      go_roundw
      case rel=>
       exact⟨rest2,m',rfl,by rw[hm1],hm3,by
        obtain⟨q1,q2,q3⟩:=hc.out
        rcases q3 with q3|⟨q3,_⟩
        ·simp only[Cnt,BT.wide] at*
         refine⟨?_,?_,.inl ?_⟩<;>omega
        ·exact absurd q3 (by simp)⟩
      case measure=>
       have e1:(intOf (Value.int IntKind.i64 (r:Int))).toNat=(BT.node r cr (.node r2 cr2 rest2)).root:=by rfl
       have e2:(intOf (Value.int IntKind.i64 (rest2.root:Int))).toNat=rest2.root:=by rfl
       have hs:=hm3.chain HL.out
       have hm:=HM.out
       rw[←e2] at hs
       rw[←e1] at hm
       show chain (w3.setCell (vAt g (u*7+5)) (Value.int IntKind.i64 (m.root:Int))) g L.length (intOf (Value.int IntKind.i64 (rest2.root:Int))).toNat<chain wr g L.length (intOf (Value.int IntKind.i64 (r:Int))).toNat
       rw[hs,hm]
       simp only[BT.wide]
       omega
end
end Go.Proofs.YtnmhcgpnhlhcgaaGreatDoor.Ph
namespace Go.Proofs.YtnmhcgpnhlhcgaaGreatDoor.Ph
theorem linked_below {C A B:Nat→Nat} {le:Nat→Nat→Prop} (x:Nat): ∀(t:BT) (p:Nat),Linked C A B p t→t.spots.Nodup→x∈t.spots→
  ∃cx:BT,C x=cx.root∧Linked C A B x cx∧((t.cut x).spots++x::cx.spots).Perm t.spots∧(Ord le t→Ord le cx)
 | .nil,_,_,_,h=>by simp[BT.spots] at h
 | .node r c y,p,hl,hn,hx=>by
  obtain⟨h1,h2,h3,h4,h5⟩:=hl
  simp only[BT.spots,List.nodup_cons,List.mem_cons,List.mem_append,not_or,List.nodup_append] at hn hx
  obtain⟨⟨nrc,nry⟩,hc,hy,hcy⟩:=hn
  rcases hx with rfl|hx|hx
  ·refine⟨c,h2,h4,?_,fun o=>o.2.1⟩
   rw[BT.cut,if_pos rfl,List.perm_iff_count]
   grind[Ph.BT.spots]
  ·have hrs:r≠x:=fun e=>nrc (e▸hx)
   have nsx:x ∉ y.spots:=fun q=>(by grind)
   obtain⟨cx,k1,k2,k3,k4⟩:=linked_below x c r h4 hc hx
   refine⟨cx,k1,k2,?_,fun o=>k4 o.2.1⟩
   rw[BT.cut,if_neg hrs,cut_out x y nsx]
   grind[Ph.BT.spots]
  ·have hrs:r≠x:=fun e=>nry (e▸hx)
   have nsc:x ∉ c.spots:=fun q=>(by grind)
   obtain⟨cx,k1,k2,k3,k4⟩:=linked_below x y r h5 hy hx
   refine⟨cx,k1,k2,?_,fun o=>k4 o.2.2⟩
   rw[BT.cut,if_neg hrs,cut_out x c nsc]
   grind[Ph.BT.spots]
theorem linked_nearer {C A B:Nat→Nat} (s:Nat): ∀(t:BT) (p:Nat),Linked C A B p t→t.spots.Nodup→s∈t.spots→
  (A s=p∨A s∈(t.cut s).spots)∧(B s=0∨B s∈(t.cut s).spots)
 | .nil,_,_,_,h=>by simp[BT.spots] at h
 | .node r c y,p,hl,hn,hx=>by
  obtain⟨h1,h2,h3,h4,h5⟩:=hl
  simp only[BT.spots,List.nodup_cons,List.mem_cons,List.mem_append,not_or,List.nodup_append] at hn hx
  obtain⟨⟨nrc,nry⟩,hc,hy,hcy⟩:=hn
  rcases hx with rfl|hx|hx
  ·refine⟨.inl h1,?_⟩
   rw[BT.cut,if_pos rfl,h3]
   cases y with
   |nil=>decide
   |node z cz xz=>grind[Ph.BT.root,Ph.BT.spots]
  ·have hrs:r≠s:=fun e=>nrc (e▸hx)
   obtain⟨a,b⟩:=linked_nearer s c r h4 hc hx
   rw[BT.cut,if_neg hrs]
   grind[Ph.BT.spots]
  ·have hrs:r≠s:=fun e=>nry (e▸hx)
   obtain⟨a,b⟩:=linked_nearer s y r h5 hy hx
   rw[BT.cut,if_neg hrs]
   grind[Ph.BT.spots]
theorem cut_apart {C A B C1 A1 B1:Nat→Nat} {p x:Nat} {c:BT} {L:List Nat} (hl:Linked C A B p c) (hC:C p=c.root) (hB:B p=0) (hn:(p::c.spots).Nodup) (h0: ∀y∈p::c.spots,y≠0) (hx:x∈c.spots)
  (hperm:((c.cut x).spots++x::L).Perm c.spots) (off: ∀y,y ∉ L→C1 y=C y∧A1 y=A y∧B1 y=B y):
  Row (cutC C1 A1 B1 x) (cutA C1 A1 B1 x) (cutB C1 A1 B1 x) (.node p (c.cut x) .nil)∧ ∀y,y∈L→cutC C1 A1 B1 x y=C1 y∧cutA C1 A1 B1 x y=A1 y∧cutB C1 A1 B1 x y=B1 y:=by
 have hnc:=(List.nodup_cons.1 hn).2
 have hpc:=(List.nodup_cons.1 hn).1
 have hnp:=hperm.nodup_iff.2 hnc
 have hLc: ∀y∈L,y∈c.spots:=fun y hy=>(by grind)
 have hdis: ∀y∈(c.cut x).spots,y ∉ L:=fun y hy hh=>(by grind)
 have hxL:=(List.nodup_cons.1 (List.nodup_append.1 hnp).2.1).1
 have hpL:p ∉ L:=fun hh=>hpc (hLc p hh)
 have h0L:0 ∉ L:=fun hh=>(by grind)
 obtain⟨k1,k2⟩:=linked_cut c p x hl hn (by grind) hx
 obtain⟨a,b⟩:=linked_nearer x c p hl hnc hx
 have haL:A x ∉ L:=by
  grind
 have hbL:B x ∉ L:=by
  grind
 have eA:=(off x hxL).2.1
 have eB:=(off x hxL).2.2
 have eC:=(off _ haL).1
 have key: ∀y,y ∉ L→cutC C1 A1 B1 x y=cutC C A B x y∧cutA C1 A1 B1 x y=cutA C A B x y∧cutB C1 A1 B1 x y=cutB C A B x y:=by
  intro y hy
  obtain⟨o1,o2,o3⟩:=off y hy
  simp only[cutC,cutA,cutB,eA,eB,eC]
  grind[upd]
 have hm:=linked_congr (c.cut x) p (fun y hy=>key y (hdis y hy)) k1
 have kp:=key p hpL
 have hnear:=(linked_near c p x hl hx).1
 refine⟨⟨?_,?_,hm,trivial⟩,fun y hy=>⟨?_,?_,?_⟩⟩
 ·rw[kp.1]
  by_cases hq:x=c.root
  ·have ha:A x=p:=by
    cases c with
    |nil=>simp[BT.spots] at hx
    |node z cz xz=>rw[BT.root] at hq;rw[hq];exact hl.1
   rw[cutC,if_pos (by grind),ha,upd_same,k2 hq]
  grind[Ph.cutC_off,Ph.cut_root]
 ·rw[kp.2.2]
  by_cases hq:x=c.root
  ·have ha:A x=p:=by
    cases c with
    |nil=>simp[BT.spots] at hx
    |node z cz xz=>rw[BT.root] at hq;rw[hq];exact hl.1
   rw[cutB,if_pos (by grind)];exact hB
  ·rw[cutB_off]
   ·exact hB
   grind
 ·exact cutC_off (by grind)
 ·grind[Ph.cutA_off]
 ·exact cutB_off (by grind)
open Go.RowKit
attribute [local go_sem ↓] Go.wp_at_zero Go.wp_at_succ
section
variable {w:World} {b g n rt ct:Nat} {D S I C A B:Nat→Nat} {T:Nat→Bool}
theorem remove_top (h:Rep w b g n rt (ct+1) D S I C A B T) (x:Nat) (hx:x=rt) (hxn:x≤n) (hct:ct≤1024) (Q:Nat→(Nat→Nat)→(Nat→Nat)→(Nat→Nat)→Prop)
  (hP:vCa 236 #[vPt b,vI6 (C x:Int)] w fun e w'=> ∃(r:Nat) (C1 A1 B1:Nat→Nat),e= .returned (vI6 (r:Int))∧Rep w' b g n rt (ct+1) D S I C1 A1 B1 T∧Only b g w w'∧Q r C1 A1 B1):
  vCa 224 #[vPt b,vI6 (x:Int)] w fun e w'=> ∃(r:Nat) (C1 A1 B1:Nat→Nat),e=vRt #[]∧Rep w' b g n r ct (upd D x 0) (upd S x 0) (upd I x 0) (upd C1 x 0) (upd A1 x 0) (upd B1 x 0) (upd T x false)∧Only b g w w'∧Q r C1 A1 B1:=by
 subst hx
 obtain⟨cp,e0⟩:=h.sl
 have c1:=h.nc x hxn
 have xl:x<n+1:=by omega
 have hbg:=h.bg
 have hgb:g≠b:=fun e=>hbg e.symm
 have HP:=veil hP
 clear h hP
 refine ge ?_
 go_wp2_with (go_at_call 236;refine(HP.out).mono ?_;rintro e w1 ⟨r,C1,A1,B1,rfl,hr,ho,hq⟩;obtain⟨cp1,e1⟩:=hr.sl;have r1:=hr.rt;have r2:=hr.ct;have m0:=hr.nd x hxn;have m1:=hr.ns x hxn;have m2:=hr.ni x hxn;have m3:=hr.nc x hxn;have m4:=hr.na x hxn;have m5:=hr.nb x hxn;have m6:=hr.nt x hxn;have fb:=hr.fb;have fg:=hr.fg;have HR:=veil hr;have HO:=veil ho;have HQ:=veil hq;clear hr ho hq)
 go_end0
 refine⟨r,C1,A1,B1,rfl,((zero_node (HR.out.setR r) x hxn).setN ct),?_,HQ.out⟩
 exact(((((((((HO.out.set (vAt b 1) _ (Or.inl rfl)).set (vAt g (x*7)) _ (Or.inr rfl)).set (vAt g (x*7+1)) _ (Or.inr rfl)).set (vAt g (x*7+2)) _ (Or.inr rfl)).set (vAt g (x*7+3)) _ (Or.inr rfl)).set (vAt g (x*7+4)) _ (Or.inr rfl)).set (vAt g (x*7+5)) _ (Or.inr rfl)).set (vAt g (x*7+6)) _ (Or.inr rfl)).set (vAt b 2) _ (Or.inl rfl))
theorem remove_deep (h:Rep w b g n rt (ct+1) D S I C A B T) (x:Nat) (hx:x≠rt) (hxn:x≤n) (hct:ct≤1024) (Q Q2:Nat→(Nat→Nat)→(Nat→Nat)→(Nat→Nat)→Prop)
  (hP:vCa 236 #[vPt b,vI6 (C x:Int)] w fun e w'=> ∃(r:Nat) (C1 A1 B1:Nat→Nat),e= .returned (vI6 (r:Int))∧Rep w' b g n rt (ct+1) D S I C1 A1 B1 T∧Only b g w w'∧Q r C1 A1 B1)
  (hQ: ∀(r:Nat) (C1 A1 B1:Nat→Nat),Q r C1 A1 B1→A1 x≤n∧B1 x≤n)
  (hJ: ∀(w2:World) (r:Nat) (C1 A1 B1:Nat→Nat),Q r C1 A1 B1→Rep w2 b g n rt (ct+1) D S I (cutC C1 A1 B1 x) (cutA C1 A1 B1 x) (cutB C1 A1 B1 x) T→vCa 238 #[vPt b,vI6 (rt:Int),vI6 (r:Int)] w2 fun e w'=> ∃(r2:Nat) (C2 A2 B2:Nat→Nat),e= .returned (vI6 (r2:Int))∧Rep w' b g n rt (ct+1) D S I C2 A2 B2 T∧Only b g w2 w'∧Q2 r2 C2 A2 B2):
  vCa 224 #[vPt b,vI6 (x:Int)] w fun e w'=> ∃(r:Nat) (C1 A1 B1:Nat→Nat),e=vRt #[]∧Rep w' b g n r ct (upd D x 0) (upd S x 0) (upd I x 0) (upd C1 x 0) (upd A1 x 0) (upd B1 x 0) (upd T x false)∧Only b g w w'∧Q2 r C1 A1 B1:=by
 obtain⟨cp,e0⟩:=h.sl
 have c1:=h.nc x hxn
 have xl:x<n+1:=by omega
 have xr: ¬(x:Int)=(rt:Int):=by omega
 have hbg:=h.bg
 have hgb:g≠b:=fun e=>hbg e.symm
 have HP:=veil hP
 have HJ:=veil hJ
 have HC:Hid (∀(w1:World) (r:Nat) (C1 A1 B1:Nat→Nat),Q r C1 A1 B1→Rep w1 b g n rt (ct+1) D S I C1 A1 B1 T→vCa 237 #[vPt b,vI6 x] w1 fun e w'=>e=vRt #[]∧Rep w' b g n rt (ct+1) D S I (cutC C1 A1 B1 x) (cutA C1 A1 B1 x) (cutB C1 A1 B1 x) T∧Only b g w1 w'):=
  fun w1 r C1 A1 B1 hq hr=>cut_any hr x (A1 x) (B1 x) hxn (by grind) (by grind) rfl rfl
 clear h hP hQ hJ
 refine ge ?_
 go_wp2_with (first
  |(go_at_call 236;refine(HP.out).mono ?_;rintro e w1 ⟨r,C1,A1,B1,rfl,hr,ho,hq⟩;have r1:=hr.rt;have HR1:=veil hr;have HO1:=veil ho;have HQ1:=veil hq;clear hr ho hq)
  |(go_at_call 237;refine(HC.out _ r C1 A1 B1 HQ1.out HR1.out).mono ?_;rintro e w2 ⟨rfl,hr,ho⟩;have r12:=hr.rt;have HR2:=veil hr;have HO2:=veil (HO1.out.trans ho);clear hr ho)
  |(go_at_call 238;refine(HJ.out _ r C1 A1 B1 HQ1.out HR2.out).mono ?_;rintro e w3 ⟨r3,C2,A2,B2,rfl,hr,ho,hq⟩;obtain⟨cp1,e1⟩:=hr.sl;have r13:=hr.rt;have r2:=hr.ct;have m0:=hr.nd x hxn;have m1:=hr.ns x hxn;have m2:=hr.ni x hxn;have m3:=hr.nc x hxn;have m4:=hr.na x hxn;have m5:=hr.nb x hxn;have m6:=hr.nt x hxn;have fb:=hr.fb;have fg:=hr.fg;have HR3:=veil hr;have HO3:=veil (HO2.out.trans ho);have HQ3:=veil hq;clear hr ho hq))
 go_end0
 refine⟨r3,C2,A2,B2,rfl,((zero_node (HR3.out.setR r3) x hxn).setN ct),?_,HQ3.out⟩
 exact(((((((((HO3.out.set (vAt b 1) _ (Or.inl rfl)).set (vAt g (x*7)) _ (Or.inr rfl)).set (vAt g (x*7+1)) _ (Or.inr rfl)).set (vAt g (x*7+2)) _ (Or.inr rfl)).set (vAt g (x*7+3)) _ (Or.inr rfl)).set (vAt g (x*7+4)) _ (Or.inr rfl)).set (vAt g (x*7+5)) _ (Or.inr rfl)).set (vAt g (x*7+6)) _ (Or.inr rfl)).set (vAt b 2) _ (Or.inl rfl))
end
end Go.Proofs.YtnmhcgpnhlhcgaaGreatDoor.Ph
namespace Go.Proofs.YtnmhcgpnhlhcgaaGreatDoor.Ph
open Go.RowKit
structure HeapAt (w:World) (b g n:Nat) (D S I:Nat→Nat) (T:Nat→Bool) (t:BT):Prop where
 lk: ∃C A B,Rep w b g n t.root t.spots.length D S I C A B T∧Row C A B t∧B 0=0
 wd:t.wide≤1
 od:Ord (Le D S I) t
 sp:Spots n t.spots
 th: ∀y,y≤n→(T y=true↔y∈t.spots)
 id: ∀y∈t.spots,I y+1=y
theorem ord_congr {le le':Nat→Nat→Prop}: ∀t:BT,(∀a∈t.spots,∀c∈t.spots,le a c→le' a c)→Ord le t→Ord le' t
 | .nil,_,_=>trivial
 | .node s c x,h,⟨h1,h2,h3⟩=>
  ⟨fun y hy=>h s (by simp[BT.spots]) y (by simp[BT.spots,hy]) (h1 y hy),ord_congr c (fun a ha d hd=>h a (by simp[BT.spots,ha]) d (by simp[BT.spots,hd])) h2,ord_congr x (fun a ha d hd=>h a (by simp[BT.spots,ha]) d (by simp[BT.spots,hd])) h3⟩
theorem le_upd {D S I:Nat→Nat} {x a c:Nat} {d s i:Nat} (ha:a≠x) (hc:c≠x) (h:Le D S I a c):Le (upd D x d) (upd S x s) (upd I x i) a c:=by
 rw[Le] at*
 grind[upd]
section
variable {w:World} {b g n:Nat} {D S I:Nat→Nat} {T:Nat→Bool} {t:BT}
theorem heap_wiped {w':World} {x ct:Nat} {t':BT} {C A B:Nat→Nat} (h:HeapAt w b g n D S I T t) (hx:x∈t.spots) (hp:(x::t'.spots).Perm t.spots) (hw:t'.wide≤1) (hr:Row C A B t') (ho:Ord (Le D S I) t') (hB:B 0=0) (hct:t.spots.length=ct+1)
  (hR:Rep w' b g n t'.root ct (upd D x 0) (upd S x 0) (upd I x 0) (upd C x 0) (upd A x 0) (upd B x 0) (upd T x false)):
  HeapAt w' b g n (upd D x 0) (upd S x 0) (upd I x 0) (upd T x false) t':=by
 have hnd:=hp.nodup_iff.2 h.sp.nd
 have hnx:=(List.nodup_cons.1 hnd).1
 have hne: ∀y∈t'.spots,y≠x:=fun y hy e=>hnx (e▸hy)
 have hin: ∀y∈t'.spots,y∈t.spots:=fun y hy=>(by grind)
 have hl:t'.spots.length=ct:=by have:=hp.length_eq;grind
 have hx0:(0:Nat)≠x:=by have:=(h.sp.le x hx).1;omega
 refine⟨⟨_,_,_,hl.symm▸hR,row_congr t' (fun s hs=>⟨upd_other _ _ _ _ (hne s hs),upd_other _ _ _ _ (hne s hs),upd_other _ _ _ _ (hne s hs)⟩) hr,by grind[upd]⟩,hw,ord_congr t' (fun a ha c hc hle=>le_upd (hne a ha) (hne c hc) hle) ho,⟨(by grind),fun y hy=>h.sp.le y (hin y hy)⟩,fun y hy=> ?_,fun y hy=>by grind[upd_other,Ph.HeapAt.id]⟩
 by_cases e:y=x
 ·grind[upd]
 ·exact mK
theorem remove_first {rt:Nat} {c:BT} (h:HeapAt w b g n D S I T (.node rt c .nil)) (hlen:c.spots.length≤1024):
  vCa 224 #[vPt b,vI6 (rt:Int)] w fun e w'=> ∃t':BT,e=vRt #[]∧(rt::t'.spots).Perm (BT.node rt c .nil).spots∧HeapAt w' b g n (upd D rt 0) (upd S rt 0) (upd I rt 0) (upd T rt false) t'∧Only b g w w':=by
 obtain⟨C,A,B,hR,hrow,hB⟩:=h.lk
 have hlen2:(BT.node rt c .nil).spots.length=c.spots.length+1:=by simp[BT.spots]
 rw[hlen2] at hR
 have hrn:=h.sp.le rt (by exact mK)
 have hsp:Spots n c.spots:=⟨by have:=h.sp.nd;grind[Ph.BT.spots],fun y hy=>h.sp.le y (by simp[BT.spots,hy])⟩
 have hpair:=pair_any (w:=w) (b:=b) (g:=g) (rt:=rt) (ct:=c.spots.length+1) (D:=D) (S:=S) (I:=I) (C:=C) (A:=A) (B:=B) (T:=T) c c.spots hsp hB
  ⟨⟨C,A,B,hR,linked_row c rt hrow.2.2.1,trivial,fun _ _=>(by grind)⟩,h.od.2.1,trivial,by simp[BT.spots],Only.refl _ _ _⟩
 rw[←hrow.1] at hpair
 have key:=remove_top hR rt rfl hrn.2 hlen (fun r C1 A1 B1=> ∃t':BT,r=t'.root∧t'.wide≤1∧Row C1 A1 B1 t'∧Ord (Le D S I) t'∧t'.spots.Perm c.spots∧B1 0=0) (hpair.mono (by
  rintro e w' ⟨t',hw,he,hp⟩
  obtain⟨C1,A1,B1,k1,k2,_,k4⟩:=hp.lk
  exact⟨t'.root,C1,A1,B1,he,k1,hp.on,t',rfl,hw,k2,hp.o1,by simpa [BT.spots] using hp.pm,(k4 0 (fun hh=>by have:=(hsp.le 0 hh).1;omega)).2.2.trans hB⟩))
 refine key.mono ?_
 grind[Ph.BT.spots,Ph.heap_wiped]
end
section
variable {w:World} {b g n:Nat} {D S I:Nat→Nat} {T:Nat→Bool}
theorem row_join {C A B:Nat→Nat} {p q:Nat} {cp cq:BT} (hp:Row C A B (.node p cp .nil)) (hq:Row C A B (.node q cq .nil)) (hn:(p::q::(cq.spots++cp.spots)).Nodup) (h0: ∀s∈cp.spots,s≠0):
  Row (joC C p q) (joA C A p q) (joB C B p q) (.node p (.node q cq cp) .nil):=by
 have hpq:p≠q:=fun e=>(by grind)
 exact⟨by rw[joC,upd_same];rfl,by rw[joB,upd_other _ _ _ _ hpq];exact hp.2.1,linked_join hp.1 hp.2.2.1 hq.1 hq.2.2.1 hn h0,trivial⟩
theorem remove_other {rt x:Nat} {c:BT} (h:HeapAt w b g n D S I T (.node rt c .nil)) (hx:x∈c.spots) (hlen:c.spots.length≤1024):
  vCa 224 #[vPt b,vI6 (x:Int)] w fun e w'=> ∃t':BT,e=vRt #[]∧(x::t'.spots).Perm (BT.node rt c .nil).spots∧HeapAt w' b g n (upd D x 0) (upd S x 0) (upd I x 0) (upd T x false) t'∧Only b g w w':=by
 obtain⟨C,A,B,hR,hrow,hB⟩:=h.lk
 have hlen2:(BT.node rt c .nil).spots.length=c.spots.length+1:=by simp[BT.spots]
 rw[hlen2] at hR
 have hnd:(rt::c.spots).Nodup:=by have:=h.sp.nd;simpa [BT.spots] using this
 have hle: ∀y∈rt::c.spots,1≤y∧y≤n:=fun y hy=>h.sp.le y (by simpa [BT.spots] using hy)
 have hrc:=(List.nodup_cons.1 hnd).1
 have hxr:x≠rt:=fun e=>hrc (e▸hx)
 obtain⟨hC,hBr,hl,_⟩:=hrow
 obtain⟨cx,k1,k2,k3,k4⟩:=linked_below (le:=Le D S I) x c rt hl (by grind) hx
 have hcx: ∀y∈cx.spots,y∈c.spots:=fun y hy=>(by grind)
 have hnp:=k3.nodup_iff.2 (List.nodup_cons.1 hnd).2
 have hxx:=(List.nodup_cons.1 (List.nodup_append.1 hnp).2.1).1
 have hsp:Spots n cx.spots:=⟨(by grind),fun y hy=>mK⟩
 have hpair:=pair_any (w:=w) (b:=b) (g:=g) (rt:=rt) (ct:=c.spots.length+1) (D:=D) (S:=S) (I:=I) (C:=C) (A:=A) (B:=B) (T:=T) cx cx.spots hsp hB
  ⟨⟨C,A,B,hR,linked_row cx x k2,trivial,fun _ _=>⟨rfl,rfl,rfl⟩⟩,k4 h.od.2.1,trivial,by simp[BT.spots],Only.refl _ _ _⟩
 rw[←k1] at hpair
 have h0L:0 ∉ cx.spots:=fun hh=>by grind
 have key:=remove_deep hR x hxr (by grind) hlen
  (fun r C1 A1 B1=> ∃tb:BT,r=tb.root∧tb.wide≤1∧Row C1 A1 B1 tb∧Ord (Le D S I) tb∧tb.spots.Perm cx.spots∧ ∀y,y ∉ cx.spots→C1 y=C y∧A1 y=A y∧B1 y=B y)
  (fun r C2 A2 B2=> ∃t':BT,r=t'.root∧t'.wide≤1∧Row C2 A2 B2 t'∧Ord (Le D S I) t'∧(x::t'.spots).Perm (rt::c.spots)∧B2 0=0)
  (hpair.mono (by
   rintro e w' ⟨t',hw,he,hp⟩
   obtain⟨C1,A1,B1,q1,q2,_,q4⟩:=hp.lk
   exact⟨t'.root,C1,A1,B1,he,q1,hp.on,t',rfl,hw,q2,hp.o1,by simpa [BT.spots] using hp.pm,q4⟩))
  (by
   rintro r C1 A1 B1 ⟨tb,_,_,_,_,_,off⟩
   obtain⟨a,d⟩:=linked_near c rt x hl hx
   grind)
  (by
   rintro w2 r C1 A1 B1 ⟨tb,rfl,hw,hrb,hob,hpb,off⟩ hR2
   obtain⟨z1,z2⟩:=cut_apart hl hC hBr hnd (by grind) hx k3 off
   have hrb2:=row_congr tb (fun y hy=>z2 y (hpb.mem_iff.1 hy)) hrb
   have hocut:=ord_cut x c h.od.2.1
   have hou: ∀y∈(c.cut x).spots,Le D S I rt y:=fun y hy=>h.od.1 y (cut_spots x c y hy)
   have hB0:cutB C1 A1 B1 x 0=0:=by
    rw[cutB_off,(off 0 h0L).2.2,hB]
    rw[(off x hxx).2.1]
    grind[Ph.linked_near]
   have hall: ∀y,List.count y ((c.cut x).spots++x::tb.spots)=List.count y c.spots:=fun y=>by
    grind
   cases tb with
   |nil=>
    refine(join_right rt (hle rt (by simp)).1 w2 b).mono ?_
    rintro e w3 ⟨he,rfl⟩
    refine⟨rt,_,_,_,he,hR2,Only.refl _ _ _,.node rt (c.cut x) .nil,rfl,by simp[BT.wide],z1,⟨hou,hocut,trivial⟩,?_,hB0⟩
    rw[List.perm_iff_count]
    grind[Ph.BT.spots]
   |node q cq xq=>
    cases xq with
    |node _ _ _=>simp[BT.wide] at hw
    |nil=>
     have hqc: ∀y∈(BT.node q cq .nil).spots,y∈c.spots:=fun y hy=>(by grind)
     have hq:=hle q (List.mem_cons_of_mem _ (hqc q (by simp[BT.spots])))
     have hrt:=hle rt (by simp)
     have hnn:(rt::q::(cq.spots++(c.cut x).spots)).Nodup:=by
      have hn2:(x::rt::q::(cq.spots++(c.cut x).spots)).Nodup:=by
       refine(List.Perm.nodup_iff ?_).2 hnd
       rw[List.perm_iff_count]
       grind[Ph.BT.spots]
      grind
     have hnn':(q::rt::((c.cut x).spots++cq.spots)).Nodup:=by
      grind
     have hroot: ∀(d:BT),(∀y∈d.spots,y∈c.spots)→d.root≤n:=fun d hd=>by
      cases d with
      |nil=>exact Nat.zero_le _
      |node s _ _=>exact(hle s (List.mem_cons_of_mem _ (hd s (by simp[BT.spots])))).2
     have hne: ∀(d:BT) (v:Nat),v ∉ d.spots→v≠0→d.root≠v:=fun d v hv h0 e=>by
      cases d with
      |nil=>exact h0 e.symm
      |node s _ _=>grind[Ph.BT.root,Ph.BT.spots]
     have y1:q ∉ (c.cut x).spots:=fun hh=>(by grind)
     have y2:rt ∉ cq.spots:=fun hh=>(by grind)
     refine(join_any hR2 rt q hrt.1 hrt.2 hq.1 hq.2 (by rw[z1.1];grind) (by rw[hrb2.1];exact hroot _ (fun y hy=>hqc y (by simp[BT.spots,hy]))) (by rw[z1.1];grind) (by rw[hrb2.1];grind)).mono ?_
     rintro e w3 ⟨u,v,huv,hlev,he,hR3,ho3⟩
     have nz1: ∀s∈(c.cut x).spots,s≠0:=fun s hs=>by grind
     have nz2: ∀s∈cq.spots,s≠0:=fun s hs=>by have:=(hle s (List.mem_cons_of_mem _ (hqc s (by simp[BT.spots,hs])))).1;omega
     rcases huv with ⟨rfl,rfl⟩|⟨rfl,rfl⟩
     ·obtain⟨j1,j2⟩:=ord_join le_trans hlev hou hob.1 hocut hob.2.1
      refine⟨u,_,_,_,he,hR3,ho3,.node u (.node v cq (c.cut x)) .nil,rfl,by assumption,row_join z1 hrb2 hnn nz1,⟨j1,j2,trivial⟩,?_,?_⟩
      ·rw[List.perm_iff_count]
       intro y
       have:=hall y
       simp only[BT.spots,List.count_append,List.count_cons,List.append_nil] at this⊢
       omega
      ·rw[joB,upd_other _ _ _ _ (by omega)];exact hB0
     ·obtain⟨j1,j2⟩:=ord_join le_trans hlev hob.1 hou hob.2.1 hocut
      refine⟨u,_,_,_,he,hR3,ho3,.node u (.node v (c.cut x) cq) .nil,rfl,by assumption,row_join hrb2 z1 hnn' nz2,⟨j1,j2,trivial⟩,?_,?_⟩
      ·rw[List.perm_iff_count]
       intro y
       have:=hall y
       simp only[BT.spots,List.count_append,List.count_cons,List.append_nil] at this⊢
       omega
      ·rw[joB,upd_other _ _ _ _ (by omega)];exact hB0)
 refine key.mono ?_
 rintro e w' ⟨r,C2,A2,B2,he,m1,m2,t',rfl,q1,q2,q3,q4,q5⟩
 have hp:(x::t'.spots).Perm (BT.node rt c .nil).spots:=by simpa [BT.spots] using q4
 exact⟨t',he,hp,heap_wiped h (by grind) hp q1 q2 q3 q5 hlen2 m1,m2⟩
end
section
variable {w:World} {b g n:Nat} {D S I:Nat→Nat} {T:Nat→Bool} {t:BT}
theorem heap_put {w':World} {x d s i:Nat} {t':BT} {C A B:Nat→Nat} (h:HeapAt w b g n D S I T t) (hx:x ∉ t.spots) (hxn:x≤n) (hi:i+1=x) (hp:t'.spots.Perm (x::t.spots)) (hw:t'.wide≤1) (hr:Row C A B t') (ho:Ord (Le (upd D x d) (upd S x s) (upd I x i)) t') (hB:B 0=0)
  (hR:Rep w' b g n t'.root (t.spots.length+1) (upd D x d) (upd S x s) (upd I x i) C A B (upd T x true)):
  HeapAt w' b g n (upd D x d) (upd S x s) (upd I x i) (upd T x true) t':=by
 have hl:t'.spots.length=t.spots.length+1:=by have:=hp.length_eq;omega
 refine⟨(by grind),hw,ho,⟨hp.nodup_iff.2 (List.nodup_cons.2 ⟨hx,h.sp.nd⟩),fun y hy=> ?_⟩,fun y hy=> ?_,fun y hy=> ?_⟩
 ·rcases List.mem_cons.1 (hp.mem_iff.1 hy) with rfl|hy
  ·omega
  ·exact h.sp.le y hy
 ·exact mK
 ·rcases List.mem_cons.1 (hp.mem_iff.1 hy) with rfl|hy
  ·grind[upd]
  grind[upd_other,Ph.HeapAt.id]
theorem put_any (h:HeapAt w b g n D S I T t) (id d s:Nat) (hid:id<n) (hn:n≤1024) (hct:t.spots.length≤1024) (hT:T (id+1)=false):
  vCa 239 #[vPt b,.agg #[vU6 (d:Int),vU6 (s:Int),vI6 (id:Int)]] w fun e w'=>e=vRt #[]∧ ∃t':BT,t'.spots.Perm ((id+1)::t.spots)∧HeapAt w' b g n (upd D (id+1) d) (upd S (id+1) s) (upd I (id+1) id) (upd T (id+1) true) t'∧Only b g w w':=by
 obtain⟨C,A,B,hR,hrow,hB⟩:=h.lk
 have hx:id+1 ∉ t.spots:=fun hh=>by have:=(h.th (id+1) (by omega)).2 hh;grind
 have hne: ∀y∈t.spots,y≠id+1:=fun y hy e=>hx (e▸hy)
 have hrow2:Row (upd C (id+1) 0) (upd A (id+1) 0) (upd B (id+1) 0) t:=row_congr t (fun y hy=>⟨upd_other _ _ _ _ (hne y hy),upd_other _ _ _ _ (hne y hy),upd_other _ _ _ _ (hne y hy)⟩) hrow
 have hod:Ord (Le (upd D (id+1) d) (upd S (id+1) s) (upd I (id+1) id)) t:=ord_congr t (fun a ha c hc hle=>le_upd (hne a ha) (hne c hc) hle) h.od
 have hB2:upd B (id+1) 0 0=0:=by assumption
 have hone:Row (upd C (id+1) 0) (upd A (id+1) 0) (upd B (id+1) 0) (.node (id+1) .nil .nil):=⟨upd_same _ _ _,upd_same _ _ _,trivial,trivial⟩
 have hcast:((id:Int)+1)=((id+1:Nat):Int):=by omega
 cases t with
 |nil=>
  refine(put_walk hR id d s (id+1) hid hn hct (fun w1 hr=>by
   rw[hcast]
   refine(join_left (id+1) w1 b).mono ?_
   rintro e w' ⟨he,rfl⟩
   exact⟨he,hr,Only.refl _ _ _⟩)).mono ?_
  rintro e w' ⟨he,k1,k2⟩
  exact⟨he,.node (id+1) .nil .nil,by simp[BT.spots],heap_put h hx (by omega) rfl (by simp[BT.spots]) (by simp[BT.wide]) hone ⟨fun y hy=>absurd hy (by simp[BT.spots]),trivial,trivial⟩ hB2 k1,k2⟩
 |node rt c x=>
  cases x with
  |node _ _ _=>have:=h.wd;simp[BT.wide] at this
  |nil=>
   have hrt:=h.sp.le rt (by exact mK)
   have hnd:(rt::c.spots).Nodup:=by have:=h.sp.nd;simpa [BT.spots] using this
   have hrx:=hne rt (by exact mK)
   have hxc:id+1 ∉ c.spots:=fun hh=>hx (by simp[BT.spots,hh])
   have nz: ∀y∈c.spots,y≠0:=fun y hy=>by have:=(h.sp.le y (by simp[BT.spots,hy])).1;omega
   have hroot:c.root≤n:=by
    cases c with
    |nil=>exact Nat.zero_le _
    |node z _ _=>exact(h.sp.le z (by simp[BT.spots])).2
   have hcr:c.root≠id+1:=by
    cases c with
    |nil=>simp[BT.root]
    |node z _ _=>exact hne z (by simp[BT.spots])
   cases hb:bef (upd D (id+1) d (id+1)) (upd S (id+1) s (id+1)) (upd I (id+1) id (id+1)) (upd D (id+1) d rt) (upd S (id+1) s rt) (upd I (id+1) id rt) with
   |true=>
    refine(put_walk hR id d s (id+1) hid hn hct (fun w1 hr=>by
     rw[hcast]
     exact join_swap hr (id+1) rt (by omega) (by omega) hrt.1 hrt.2 (by grind[upd]) (by grind[upd]) hb)).mono ?_
    rintro e w' ⟨he,k1,k2⟩
    have hperm:(BT.node (id+1) (.node rt c .nil) .nil).spots.Perm ((id+1)::(BT.node rt c .nil).spots):=by simp[BT.spots]
    obtain⟨j1,j2⟩:=ord_join (cp:= .nil) le_trans (le_of_before hb) (fun y hy=>absurd hy (by simp[BT.spots])) hod.1 trivial hod.2.1
    exact⟨he,.node (id+1) (.node rt c .nil) .nil,hperm,heap_put h hx (by omega) rfl hperm (by simp[BT.wide]) (row_join hone hrow2 (by simpa [BT.spots] using List.nodup_cons.2 ⟨hx,h.sp.nd⟩) (fun y hy=>absurd hy (by simp[BT.spots]))) ⟨j1,j2,trivial⟩ (by rw[joB,upd_other _ _ _ _ (by omega)];exact hB2) k1,k2⟩
   |false=>
    refine(put_walk hR id d s rt hid hn hct (fun w1 hr=>by
     rw[hcast]
     exact join_keep hr rt (id+1) hrt.1 hrt.2 (by omega) (by omega) (by rw[hrow2.1];omega) (by rw[hrow2.1];exact hcr) hb)).mono ?_
    rintro e w' ⟨he,k1,k2⟩
    have hperm:(BT.node rt (.node (id+1) .nil c) .nil).spots.Perm ((id+1)::(BT.node rt c .nil).spots):=by
     exact mK
    obtain⟨j1,j2⟩:=ord_join (cq:= .nil) le_trans hb hod.1 (fun y hy=>absurd hy (by simp[BT.spots])) hod.2.1 trivial
    have hn2:(rt::(id+1)::([]++c.spots)).Nodup:=by
     grind
    exact⟨he,.node rt (.node (id+1) .nil c) .nil,hperm,heap_put h hx (by omega) rfl hperm (by simp[BT.wide]) (row_join hrow2 hone hn2 nz) ⟨j1,j2,trivial⟩ (by assumption) k1,k2⟩
end
def Wiped (n:Nat) (D S:Nat→Nat) (T:Nat→Bool):Prop:= ∀id,id<n→T (id+1)=false→D (id+1)=0∧S (id+1)=0
theorem Wiped.cut {n x:Nat} {D S:Nat→Nat} {T:Nat→Bool} (h:Wiped n D S T):Wiped n (upd D x 0) (upd S x 0) (upd T x false):=by
 intro i hi ht
 by_cases e:i+1=x
 ·grind[upd]
 ·rw[upd_other _ _ _ _ e] at ht
  rw[upd_other _ _ _ _ e,upd_other _ _ _ _ e];exact h i hi ht
theorem Wiped.put {n x d s:Nat} {D S:Nat→Nat} {T:Nat→Bool} (h:Wiped n D S T):Wiped n (upd D x d) (upd S x s) (upd T x true):=by
 intro i hi ht
 by_cases e:i+1=x
 ·grind[upd]
 ·rw[upd_other _ _ _ _ e] at ht
  rw[upd_other _ _ _ _ e,upd_other _ _ _ _ e];exact h i hi ht
def Holds (w:World) (b g n:Nat) (m:Nat→Option (Nat×Nat)) (t:BT):Prop:=
 ∃D S I T,HeapAt w b g n D S I T t∧n≤1024∧(∀id,id<n→m id=if T (id+1) then some (D (id+1),S (id+1)) else none)∧Wiped n D S T
theorem spots_len: ∀{n:Nat} {L:List Nat},Spots n L→L.length≤n
 |0,L,h=>by
  cases L with
  |nil=>simp
  |cons y _=>have:=h.le y (by simp);omega
 |n+1,L,h=>by
  have k:Spots n (L.erase (n+1)):=⟨h.nd.erase _,fun y hy=>by
   exact mK⟩
  have:=spots_len k
  grind
section
variable {w:World} {b g n:Nat} {D S I:Nat→Nat} {T:Nat→Bool} {t:BT} {m:Nat→Option (Nat×Nat)}
theorem remove_any (h:HeapAt w b g n D S I T t) (hn:n≤1024) (x:Nat) (hx:x∈t.spots):
  vCa 224 #[vPt b,vI6 (x:Int)] w fun e w'=>e=vRt #[]∧ ∃t':BT,(x::t'.spots).Perm t.spots∧HeapAt w' b g n (upd D x 0) (upd S x 0) (upd I x 0) (upd T x false) t'∧Only b g w w':=by
 have hl:=spots_len h.sp
 cases t with
 |nil=>simp[BT.spots] at hx
 |node rt c y=>
  cases y with
  |node _ _ _=>have:=h.wd;simp[BT.wide] at this
  |nil=>
   grind[Ph.BT.spots,Ph.remove_first,Ph.remove_other]
theorem wiped_m {id:Nat} (hm: ∀i,i<n→m i=if T (i+1) then some (D (i+1),S (i+1)) else none): ∀i,i<n→upd m id none i=if upd T (id+1) false (i+1) then some (upd D (id+1) 0 (i+1),upd S (id+1) 0 (i+1)) else none:=by
 grind[upd]
theorem put_m {id d s:Nat} (hm: ∀i,i<n→m i=if T (i+1) then some (D (i+1),S (i+1)) else none): ∀i,i<n→upd m id (some (d,s)) i=if upd T (id+1) true (i+1) then some (upd D (id+1) d (i+1),upd S (id+1) s (i+1)) else none:=by
 grind[upd]
theorem holds_there {id:Nat} (hm: ∀i,i<n→m i=if T (i+1) then some (D (i+1),S (i+1)) else none) (hid:id<n):(m id).isSome=T (id+1):=by
 grind
theorem insert_ok (h:Holds w b g n m t) (id d s:Nat) (hid:id<n) (hm:(m id).isSome=false):
  vCa 225 #[vPt b,vI6 (id:Int),vU6 (d:Int),vU6 (s:Int)] w fun e w'=>e= .returned (vI6 0)∧ ∃t',t'.spots.Perm ((id+1)::t.spots)∧Holds w' b g n (upd m id (some (d,s))) t'∧Only b g w w':=by
 obtain⟨D,S,I,T,h1,h2,h3,h4⟩:=h
 have hT:=(holds_there h3 hid).symm.trans hm
 obtain⟨C,A,B,hR,_⟩:=h1.lk
 have hl:=spots_len h1.sp
 refine insert_walk hR id d s h2 hid hT _ ((put_any h1 id d s hid h2 (by omega) hT).mono ?_)
 rintro e w' ⟨he,t',p,q,o⟩
 exact⟨he,t',p,⟨_,_,_,_,q,h2,put_m h3,h4.put⟩,o⟩
theorem delete_ok (h:Holds w b g n m t) (id:Nat) (hid:id<n) (hm:(m id).isSome=true):
  vCa 203 #[vPt b,vI6 (id:Int)] w fun e w'=>e= .returned (vI6 0)∧ ∃t',((id+1)::t'.spots).Perm t.spots∧Holds w' b g n (upd m id none) t'∧Only b g w w':=by
 obtain⟨D,S,I,T,h1,h2,h3,h4⟩:=h
 have hT:=(holds_there h3 hid).symm.trans hm
 obtain⟨C,A,B,hR,_⟩:=h1.lk
 refine delete_walk hR id h2 hid hT _ ((remove_any h1 h2 (id+1) ((h1.th (id+1) (by omega)).1 hT)).mono ?_)
 rintro e w' ⟨he,t',p,q,o⟩
 exact⟨he,t',p,⟨_,_,_,_,q,h2,wiped_m h3,h4.cut⟩,o⟩
end
def First (n:Nat) (m:Nat→Option (Nat×Nat)) (id:Nat):Prop:=
 id<n∧ ∃d s,m id=some (d,s)∧ ∀j d' s',j<n→m j=some (d',s')→d<d'∨(d=d'∧(s<s'∨(s=s'∧id≤j)))
section
variable {w:World} {b g n:Nat} {D S I:Nat→Nat} {T:Nat→Bool} {t:BT} {m:Nat→Option (Nat×Nat)}
theorem first_root (h:HeapAt w b g n D S I T t) (hm: ∀i,i<n→m i=if T (i+1) then some (D (i+1),S (i+1)) else none) (ht:t.spots≠[]):I t.root+1=t.root∧t.root∈t.spots∧First n m (I t.root):=by
 cases t with
 |nil=>exact absurd rfl ht
 |node rt c y=>
  cases y with
  |node _ _ _=>have:=h.wd;simp[BT.wide] at this
  |nil=>
   have hid:=h.id rt (by exact mK)
   have hle:=h.sp.le rt (by exact mK)
   refine⟨hid,by exact mK,?_⟩
   show First n m (I rt)
   have hlt:I rt<n:=by omega
   have hT:T (I rt+1)=true:=by rw[hid];exact(h.th rt hle.2).2 (by exact mK)
   have hv:=hm (I rt) hlt
   rw[hT,if_pos rfl] at hv
   refine⟨hlt,_,_,hv,fun j d' s' hj hmj=> ?_⟩
   rw[hm j hj] at hmj
   have hTj:T (j+1)=true:=by
    grind
   rw[hTj,if_pos rfl] at hmj
   injection hmj with hmj
   injection hmj with e1 e2
   have hjs:=(h.th (j+1) (by omega)).1 hTj
   rw[hid]
   simp only[BT.spots,List.append_nil,List.mem_cons] at hjs
   rcases hjs with e|hjs
   ·grind
   ·have hl:=le_iff.1 (h.od.1 (j+1) hjs)
    grind[Ph.HeapAt.id,Ph.BT.spots]
theorem min_ok (h:Holds w b g n m t) (ht:t.spots≠[]):
  vCa 217 #[vPt b] w fun e w'=> ∃id:Nat,First n m id∧e=vRt #[vI6 (id:Int),.bool true]∧ ∃q,w'=w.drewN q:=by
 obtain⟨D,S,I,T,h1,h2,h3,h4⟩:=h
 obtain⟨k1,k2,k3⟩:=first_root h1 h3 ht
 obtain⟨C,A,B,hR,_⟩:=h1.lk
 have hle:=h1.sp.le _ k2
 refine(min_walk hR hle.1 hle.2).mono ?_
 grind
end
attribute [local go_sem ↓] Go.wp_at_zero Go.wp_at_succ
section
variable {w:World} {b g n rt ct:Nat} {D S I C A B:Nat→Nat} {T:Nat→Bool}
theorem min_none (h:Rep w b g n 0 ct D S I C A B T):
  vS 217 #[vPt b] w (.tuple #[vI6 0,.bool false]):=by
 have e1:w.cell? (vAt b 1)=some (vI6 0):=h.rt
 clear h
 refine ge ?_
 go_wp2
 go_ret2
 simp
theorem insert_known (h:Rep w b g n rt ct D S I C A B T) (id:Nat) (d s:Int) (hid:id<n) (hn:n≤1024) (hT:T (id+1)=true):
  vS 225 #[vPt b,vI6 (id:Int),vU6 d,vU6 s] w (vI6 5):=by
 have HM:=veil (may_yes h id hn hid)
 obtain⟨cp,e0⟩:=h.sl
 have e1:=h.nt (id+1) (by omega)
 rw[hT] at e1
 clear h hT
 refine ge ?_
 go_wp2_with (go_at_call 222;refine cS HM.out ?_)
 go_ret
 simp
theorem delete_none (h:Rep w b g n rt ct D S I C A B T) (id:Nat) (hid:id<n) (hn:n≤1024) (hT:T (id+1)=false):
  vS 203 #[vPt b,vI6 (id:Int)] w (vI6 6):=by
 have HM:=veil (may_yes h id hn hid)
 obtain⟨cp,e0⟩:=h.sl
 have e1:=h.nt (id+1) (by omega)
 rw[hT] at e1
 clear h hT
 refine ge ?_
 go_wp2_with (go_at_call 222;refine cS HM.out ?_)
 go_ret
 simp
end
end Go.Proofs.YtnmhcgpnhlhcgaaGreatDoor.Ph
namespace Go.Proofs.YtnmhcgpnhlhcgaaGreatDoor.Ph
open Go.RowKit
abbrev Item:=Nat×Nat×Nat
def ah (a b:Item):Prop:=a.2.1<b.2.1∨(a.2.1=b.2.1∧(a.2.2<b.2.2∨(a.2.2=b.2.2∧a.1<b.1)))
instance (a b:Item):Decidable (ah a b):=by unfold ah;exact inferInstance
theorem ah_trans {a b c:Item} (h:ah a b) (k:ah b c):ah a c:=by unfold ah at*;omega
theorem ah_tot {a b:Item} (h:a.1≠b.1) (k: ¬ah a b):ah b a:=by unfold ah at*;omega
def ins (x:Item):List Item→List Item
 |[]=>[x]
 |y::L=>if ah x y then x::y::L else y::ins x L
def out (id:Nat) (L:List Item):List Item:=L.filter (fun it=>it.1 !=id)
def Srt (L:List Item):Prop:=L.Pairwise ah
theorem mem_ins {x y:Item}: ∀{L:List Item},y∈ins x L↔y=x∨y∈L
 |[]=>by simp[ins]
 |z::L=>by
  rw[ins]
  split
  ·simp
  ·rw[List.mem_cons,mem_ins (L:=L),List.mem_cons]
   grind
theorem len_ins {x:Item}: ∀{L:List Item},(ins x L).length=L.length+1
 |[]=>rfl
 |z::L=>by
  rw[ins]
  split
  ·simp
  ·simp[len_ins (L:=L)]
theorem srt_ins {x:Item}: ∀{L:List Item},Srt L→(∀y∈L,y.1≠x.1)→Srt (ins x L)
 |[],_,_=>by simp[Srt,ins]
 |z::L,h,hx=>by
  unfold Srt at h⊢
  rw[List.pairwise_cons] at h
  rw[ins]
  split
  ·rename_i hz
   rw[List.pairwise_cons,List.pairwise_cons]
   refine⟨fun y hy=> ?_,h⟩
   rcases List.mem_cons.1 hy with rfl|hy
   ·exact hz
   ·exact ah_trans hz (h.1 y hy)
  ·rename_i hz
   rw[List.pairwise_cons]
   refine⟨fun y hy=> ?_,srt_ins h.2 (by grind)⟩
   rcases mem_ins.1 hy with rfl|hy
   ·grind[Ph.ah_tot]
   ·exact h.1 y hy
theorem mem_out {id:Nat} {y:Item} {L:List Item}:y∈out id L↔y∈L∧y.1≠id:=by simp[out]
theorem srt_out {id:Nat} {L:List Item} (h:Srt L):Srt (out id L):=List.Pairwise.filter _ h
structure Good (n:Nat) (L:List Item):Prop where
 srt:Srt L
 ids:(L.map (·.1)).Nodup
 rng: ∀it∈L,it.1<n
theorem Good.nil (n:Nat):Good n []:=⟨by simp[Srt],by simp,by simp⟩
theorem nodup_ins {x:Item}: ∀{L:List Item},(L.map (·.1)).Nodup→(∀y∈L,y.1≠x.1)→((ins x L).map (·.1)).Nodup
 |[],_,_=>by simp[ins]
 |z::L,h,hx=>by
  rw[ins]
  rw[List.map_cons,List.nodup_cons] at h
  split
  ·grind
  ·rw[List.map_cons,List.nodup_cons]
   refine⟨fun q=> ?_,nodup_ins h.2 (by grind)⟩
   obtain⟨y,hy,e⟩:=List.mem_map.1 q
   rcases mem_ins.1 hy with rfl|hy
   ·grind
   grind
theorem Good.ins {n:Nat} {L:List Item} (h:Good n L) {x:Item} (hx:x.1<n) (hid: ∀y∈L,y.1≠x.1):Good n (ins x L):=
 ⟨srt_ins h.srt hid,nodup_ins h.ids hid,fun it hit=>by
  rcases mem_ins.1 hit with rfl|q
  ·exact hx
  ·exact h.rng it q⟩
theorem Good.out {n:Nat} {L:List Item} (h:Good n L) (id:Nat):Good n (out id L):=
 ⟨srt_out h.srt,(List.Sublist.map _ List.filter_sublist).nodup h.ids,fun it hit=>h.rng it (mem_out.1 hit).1⟩
theorem out_miss {id:Nat} {L:List Item} (h: ∀y∈L,y.1≠id):out id L=L:=by
 grind[Ph.out,List.filter_eq_self]
theorem out_split {n:Nat} {L1 L2:List Item} {x:Item} (h:Good n (L1++x::L2)):out x.1 (L1++x::L2)=L1++L2:=by
 have hn:=h.ids
 rw[List.map_append,List.nodup_append] at hn
 simp only[List.map_cons,List.nodup_cons] at hn
 unfold out
 rw[List.filter_append,List.filter_cons_of_neg (by simp)]
 congr 1
 ·rw[List.filter_eq_self]
  intro y hy
  simp only[bne_iff_ne,ne_eq]
  exact hn.2.2 _ (by grind) _ (by simp)
 grind[List.filter_eq_self]
theorem Good.uniq {n:Nat} {L:List Item} (h:Good n L) {x y:Item} (hx:x∈L) (hy:y∈L) (e:x.1=y.1):x=y:=by
 by_cases c1:ah x y
 ·obtain⟨s,t,rfl⟩:=List.append_of_mem hx
  have hn:=h.ids
  grind
 ·obtain⟨s,t,rfl⟩:=List.append_of_mem hx
  have hn:=h.ids
  grind
def IsH (w:World) (b g n:Nat) (L:List Item):Prop:=
 Good n L∧ ∃m t,Holds w b g n m t∧L.length=t.spots.length∧ ∀id d s,id<n→(m id=some (d,s)↔(id,d,s)∈L)
section
variable {w:World} {b g n:Nat} {L:List Item} {m:Nat→Option (Nat×Nat)} {t:BT}
theorem IsH.good (h:IsH w b g n L):Good n L:=h.1
theorem IsH.nle (h:IsH w b g n L):n≤1024:=by
 obtain⟨_,m,t,⟨_,_,_,_,_,hn,_⟩,_⟩:=h
 exact hn
theorem m_none {id:Nat} (hm: ∀id d s,id<n→(m id=some (d,s)↔(id,d,s)∈L)) (hi:id<n) (hid: ∀it∈L,it.1≠id):(m id).isSome=false:=by
 cases h:m id with
 |none=>rfl
 |some x=>
  grind
theorem m_some {id d s:Nat} (hm: ∀id d s,id<n→(m id=some (d,s)↔(id,d,s)∈L)) (hi:id<n) (hid:(id,d,s)∈L):(m id).isSome=true:=by
 grind
theorem m_ins {id d s:Nat} (hm: ∀id d s,id<n→(m id=some (d,s)↔(id,d,s)∈L)) (hid: ∀it∈L,it.1≠id): ∀i d' s',i<n→(upd m id (some (d,s)) i=some (d',s')↔(i,d',s')∈ins (id,d,s) L):=by
 grind[Ph.mem_ins,upd]
theorem m_out {id:Nat} (hm: ∀id d s,id<n→(m id=some (d,s)↔(id,d,s)∈L)): ∀i d' s',i<n→(upd m id none i=some (d',s')↔(i,d',s')∈out id L):=by
 grind[Ph.mem_out,upd]
theorem len_out {id d s:Nat} {L:List Item} (h:Good n L) (hid:(id,d,s)∈L):(out id L).length+1=L.length:=by
 obtain⟨L1,L2,rfl⟩:=List.append_of_mem hid
 rw[show out id (L1++(id,d,s)::L2)=L1++L2 from out_split (x:=(id,d,s)) h]
 grind
theorem hinsert_ok (h:IsH w b g n L) (id d s:Nat) (hid:id<n) (hno: ∀it∈L,it.1≠id):
  vCa 225 #[vPt b,vI6 (id:Int),vU6 (d:Int),vU6 (s:Int)] w fun e w'=>e= .returned (vI6 0)∧IsH w' b g n (ins (id,d,s) L)∧Only b g w w':=by
 obtain⟨h0,m,t,h1,h2,h3⟩:=h
 refine(insert_ok h1 id d s hid (m_none h3 hid hno)).mono ?_
 rintro e w' ⟨he,t',p,hh,o⟩
 refine⟨he,⟨h0.ins (x:=(id,d,s)) hid hno,_,t',hh,?_,m_ins h3 hno⟩,o⟩
 grind[List.Perm.length_eq,Ph.len_ins,List.length_cons]
theorem hdelete_ok (h:IsH w b g n L) (id d s:Nat) (hid:(id,d,s)∈L):
  vCa 203 #[vPt b,vI6 (id:Int)] w fun e w'=>e= .returned (vI6 0)∧IsH w' b g n (out id L)∧Only b g w w':=by
 obtain⟨h0,m,t,h1,h2,h3⟩:=h
 have hi:=h0.rng _ hid
 refine(delete_ok h1 id hi (by grind)).mono ?_
 rintro e w' ⟨he,t',p,hh,o⟩
 refine⟨he,⟨h0.out id,_,t',hh,?_,m_out h3⟩,o⟩
 grind[List.Perm.length_eq,List.length_cons,Ph.len_out]
theorem first_head {x:Item} {id:Nat} (h0:Good n (x::L)) (hm: ∀id d s,id<n→(m id=some (d,s)↔(id,d,s)∈x::L)) (hf:First n m id):id=x.1:=by
 obtain⟨hi,d,s,hd,hle⟩:=hf
 have h1:=(hm id d s hi).1 hd
 rcases List.mem_cons.1 h1 with e|e
 ·grind
 ·have h2:=(List.pairwise_cons.1 h0.srt).1 _ e
  have h3:=hle x.1 x.2.1 x.2.2 (h0.rng x (by simp)) ((hm x.1 x.2.1 x.2.2 (h0.rng x (by simp))).2 (by simp))
  unfold ah at h2
  grind
theorem hmin_ok {x:Item} (h:IsH w b g n (x::L)):
  vCa 217 #[vPt b] w fun e w'=>e=vRt #[vI6 (x.1:Int),.bool true]∧ ∃q,w'=w.drewN q:=by
 obtain⟨h0,m,t,h1,h2,h3⟩:=h
 refine(min_ok h1 (by grind)).mono ?_
 grind[Ph.first_head]
theorem IsH.rep (h:IsH w b g n L): ∃t D S I C A B T,Rep w b g n (BT.root t) L.length D S I C A B T∧(L=[]→t=BT.nil)∧n≤1024∧Wiped n D S T∧(∀id,id<n→(T (id+1)=true↔ ∃it∈L,it.1=id))∧ ∀id,id<n→T (id+1)=true→(id,D (id+1),S (id+1))∈L:=by
 obtain⟨h0,m,t,⟨D,S,I,T,h1,hn,h4,h5⟩,h2,h3⟩:=h
 obtain⟨C,A,B,hR,_⟩:=h1.lk
 refine⟨t,D,S,I,C,A,B,T,h2▸hR,fun e=> ?_,hn,h5,fun id hi=> ?_,fun id hi hT=> ?_⟩
 ·subst e
  cases t with
  |nil=>rfl
  |node _ _ _=>simp[BT.spots] at h2
 ·grind
 grind
theorem IsH.kept {w':World} (h:IsH w b g n L) (hb:w'.heap[b]? =w.heap[b]?) (hg:w'.heap[g]? =w.heap[g]?):IsH w' b g n L:=by
 obtain⟨h0,m,t,⟨D,S,I,T,h1,hn,h4,h5⟩,h2,h3⟩:=h
 obtain⟨C,A,B,hR,hrow,hB⟩:=h1.lk
 exact⟨h0,m,t,⟨D,S,I,T,⟨⟨C,A,B,hR.kept hb hg,hrow,hB⟩,h1.wd,h1.od,h1.sp,h1.th,h1.id⟩,hn,h4,h5⟩,h2,h3⟩
theorem IsH.blocks (h:IsH w b g n L):b<w.heap.size∧g<w.heap.size∧b≠g:=by
 obtain⟨t,D,S,I,C,A,B,T,hR,_⟩:=h.rep
 exact⟨hR.lt_b,hR.lt_g,hR.bg⟩
theorem IsH.below {w':World} (h:IsH w b g n L) (hb:vBw w w'):IsH w' b g n L:=h.kept (hb.block b h.blocks.1) (hb.block g h.blocks.2.1)
end
attribute [local go_sem ↓] Go.wp_at_zero Go.wp_at_succ
section
variable {w:World} {b g n:Nat} {L:List Item}
theorem hnew_ok (n:Nat) (w:World) (h1:1≤n) (h2:n≤1024):
  vCa 115 #[vI6 n] w fun e w'=>e= .returned (vPt (w.heap.size+1))∧IsH w' (w.heap.size+1) w.heap.size n []∧vBw w w':=by
 refine(new_ok n w h1 h2).mono ?_
 rintro e w' ⟨he,hr,hb⟩
 refine⟨he,⟨Good.nil n,fun _=>none,.nil,⟨_,_,_,_,⟨⟨_,_,_,hr,trivial,rfl⟩,by decide,trivial,⟨by decide,by simp[BT.spots]⟩,fun y _=>by simp[BT.spots],by decide⟩,h2,fun _ _=>rfl,fun _ _ _=>⟨rfl,rfl⟩⟩,rfl,fun _ _ _ _=>by simp⟩,hb⟩
theorem hmin_none (h:IsH w b g n []):
  vS 217 #[vPt b] w (.tuple #[vI6 0,.bool false]):=by
 obtain⟨t,D,S,I,C,A,B,T,hR,ht,_⟩:=h.rep
 rw[ht rfl] at hR
 exact min_none hR
theorem hdelete_none (h:IsH w b g n L) (id:Nat) (hi:id<n) (hid: ∀it∈L,it.1≠id):
  vS 203 #[vPt b,vI6 (id:Int)] w (vI6 6):=by
 grind[Ph.IsH.rep,Ph.delete_none]
theorem hlen_ok (h:IsH w b g n L):
  vS 188 #[vPt b] w (vI6 (L.length:Int)):=by
 obtain⟨t,D,S,I,C,A,B,T,hR,_⟩:=h.rep
 have e2:=hR.ct
 clear hR h
 refine ge ?_
 go_wp2
 go_ret
 simp
theorem get_rep {rt ct:Nat} {D S I C A B:Nat→Nat} {T:Nat→Bool} (h:Rep w b g n rt ct D S I C A B T) (id:Nat) (hi:id<n) (hn:n≤1024):
  vQ 201 #[vPt b,vI6 id] w (.tuple #[vU6 (D (id+1):Nat),vU6 (S (id+1):Nat),.bool (T (id+1))]):=by
 have HM:=veil (may_yes h id hn hi)
 obtain⟨cp,e0⟩:=h.sl
 have c0:=h.nd (id+1) (by omega)
 have c1:=h.ns (id+1) (by omega)
 have c2:=h.ni (id+1) (by omega)
 have c3:=h.nc (id+1) (by omega)
 have c4:=h.na (id+1) (by omega)
 have c5:=h.nb (id+1) (by omega)
 have c6:=h.nt (id+1) (by omega)
 clear h
 generalize D (id+1)=d at*
 generalize S (id+1)=s at*
 generalize I (id+1)=i at*
 generalize C (id+1)=c at*
 generalize A (id+1)=a at*
 generalize B (id+1)=bb at*
 generalize T (id+1)=t at*
 refine ge ?_
 go_wp2_with (go_at_call 222;refine cS HM.out ?_)
 go_quiet (fail)
 go_wp2
 go_ret3
 exact⟨rfl,below_drewN bzA _⟩
theorem hget_none (h:IsH w b g n L) (id:Nat) (hi:id<n) (hid: ∀it∈L,it.1≠id):
  vQ 201 #[vPt b,vI6 id] w (.tuple #[vU6 0,vU6 0,.bool false]):=by
 obtain⟨t,D,S,I,C,A,B,T,hR,_,hn,hW,hT,_⟩:=h.rep
 have hf:T (id+1)=false:=by
  grind
 have hg:=get_rep hR id hi hn
 rw[hf,(hW id hi hf).1,(hW id hi hf).2] at hg
 exact hg
theorem hget_some (h:IsH w b g n L) (id d s:Nat) (hid:(id,d,s)∈L):
  vQ 201 #[vPt b,vI6 id] w (.tuple #[vU6 d,vU6 s,.bool true]):=by
 obtain⟨t,D,S,I,C,A,B,T,hR,_,hn,hW,hT,hm⟩:=h.rep
 have hi:=h.good.rng _ hid
 have hf:=(hT id hi).2 ⟨_,hid,rfl⟩
 have he:=h.good.uniq (hm id hi hf) hid rfl
 injection he with _ he
 injection he with he1 he2
 have hg:=get_rep hR id hi hn
 rw[hf,he1,he2] at hg
 exact hg
end
end Go.Proofs.YtnmhcgpnhlhcgaaGreatDoor.Ph
namespace Go.Proofs.YtnmhcgpnhlhcgaaGreatDoor.Dc
open Go.RowKit Go.Lib
section
variable {S S':Nat→Prop} {w w' w'':World}
end
theorem owns_slice {w:World} {base:Nat} {e:TypeId} {size:Nat} {v:Value} {n:Nat} {xs:List Value} (h:w.ownsRow base e size v n xs): ∃a c,v= .slice a n c:=by
 rcases h.2 with ⟨e,e0⟩|⟨g,cap,cur,e,_⟩
 ·grind
 grind
attribute [local go_sem ↓] Go.wp_at_zero Go.wp_at_succ
@[go_sem high] theorem neqB (a b : Ke.K) (w : World) : (binOp .neq 120 (.agg (vKy a)) (.agg (vKy b))).run Tryz.prog w = .ok (.bool (!Ke.same a b)) w := by
 simp[binOp,go_sem]
section
variable {w:World} {base rb n most:Nat} {v:Value} {R R1 R2:List En} {id:Nat} {k k':Ke.K}
end
end Go.Proofs.YtnmhcgpnhlhcgaaGreatDoor.Dc
namespace Go.Proofs.YtnmhcgpnhlhcgaaGreatDoor
open Go.RowKit
attribute [local go_sem ↓] Go.wp_at_zero Go.wp_at_succ
structure St (w:World) (sb qb gq hb gh n most turn:Nat) (R:List (Nat×Nat)) (L:List Ph.Item):Prop where
 c0:w.cell? (vA0 sb)=some (vPt qb)
 c1:w.cell? (vAt sb 1)=some (vPt hb)
 c2:w.cell? (vAt sb 2)=some (vI6 (n:Int))
 c3:w.cell? (vAt sb 3)=some (vI6 (most:Int))
 c4:w.cell? (vAt sb 4)=some (vU6 (turn:Int))
 fz: ∀o,w.frozen? (vAt sb o)=false
 q:Bq.IsQ w qb gq n R
 h:Ph.IsH w hb gh n L
 ne:sb≠qb∧sb≠gq∧sb≠hb∧sb≠gh∧qb≠hb∧qb≠gh∧gq≠hb∧gq≠gh
section
variable {w w':World} {sb qb gq hb gh n most turn:Nat} {R:List (Nat×Nat)} {L:List Ph.Item}
theorem St.lt (h:St w sb qb gq hb gh n most turn R L):sb<w.heap.size:=World.block_lt_of_cell? w (vA0 sb) h.c0
theorem St.below (h:St w sb qb gq hb gh n most turn R L) (hw:vBw w w'):St w' sb qb gq hb gh n most turn R L:=
 ⟨(hw.cell (p:=(vA0 sb)) h.lt).trans h.c0,(hw.cell (p:=(vAt sb 1)) h.lt).trans h.c1,(hw.cell (p:=(vAt sb 2)) h.lt).trans h.c2,(hw.cell (p:=(vAt sb 3)) h.lt).trans h.c3,(hw.cell (p:=(vAt sb 4)) h.lt).trans h.c4,fun o=>(World.frozen?_of_block (a:=(vAt sb o)) (hw.block sb h.lt)).trans (h.fz o),h.q.below hw,h.h.below hw,h.ne⟩
end
theorem snew_ok (n most:Nat) (w:World) (h1:1≤n) (h2:n≤1024) (h3:1≤most) (h4:most≤n):
  vCa 69 #[vI6 n,vI6 most] w fun e w'=> ∃sb qb gq hb gh,e= .returned (vPt sb)∧w.heap.size≤sb∧w.heap.size≤qb∧w.heap.size≤gq∧w.heap.size≤hb∧w.heap.size≤gh∧St w' sb qb gq hb gh n most 0 [] []∧vBw w w':=by
 have HQ:=veil (Bq.new_ok n w h1 h2)
 have HH:=veil (fun W=>Ph.hnew_ok n W h1 h2)
 refine ge ?_
 go_wp2_with (first
  |(go_at_call 114;refine cI HQ.out fun w1 HQ1 HB1=> ?_)
  |(go_at_call 115;refine cI (HH.out _) fun w2 HH2 HB2=> ?_))
 have HX:Hid (St (w2.alloc (.cells #[vPt (w.heap.size+1),vPt (w1.heap.size+1),vI6 (n:Int),vI6 (most:Int),vU6 0] 233)) w2.heap.size (w.heap.size+1) w.heap.size (w1.heap.size+1) w1.heap.size n most 0 [] []):=by
  have q1:=HQ1.out.below HB2.out
  have q2:=q1.below (bzR.alloc lzr (.cells #[vPt (w.heap.size+1),vPt (w1.heap.size+1),vI6 (n:Int),vI6 (most:Int),vU6 0] 233))
  have q3:=HH2.out.below (bzR.alloc lzr (.cells #[vPt (w.heap.size+1),vPt (w1.heap.size+1),vI6 (n:Int),vI6 (most:Int),vU6 0] 233))
  have b1:=HQ1.out.blocks
  have b2:=HH2.out.blocks
  have s1:=HB1.out.size
  have s2:=HB2.out.size
  exact⟨by simp,by simp,by simp,by simp,by simp,fun o=>frozen_new _ _ _ _,q2,q3,by omega⟩
 have HY:Hid (vBw w (w2.alloc (.cells #[vPt (w.heap.size+1),vPt (w1.heap.size+1),vI6 (n:Int),vI6 (most:Int),vU6 0] 233))):=(HB1.out.trans (HB2.out.mono HB1.out.size)).alloc (Nat.le_trans HB1.out.size HB2.out.size) _
 have s1:=HB1.out.size
 have s2:=HB2.out.size
 go_ret
 exact⟨_,_,_,_,_,rfl,by omega,by omega,by omega,by omega,by omega,HX.out,HY.out⟩
section
variable {w:World} {sb qb gq hb gh n most turn:Nat} {R:List (Nat×Nat)} {L:List Ph.Item}
theorem pkey_none (h:St w sb qb gq hb gh n most turn R L) (id:Nat) (hi:id<n) (hr: ∀it∈R,it.1≠id) (hl: ∀it∈L,it.1≠id):
  vQ 174 #[.agg #[vPt qb,vPt hb],vI6 (id:Int)] w (.tuple #[.agg #[.bool false,vU6 0,vU8 0],.bool false]):=by
 have hA:=((Below.refl w.heap.size w).alloc lzr (.cells #[vPt qb,vPt hb] 231)).alloc (by simp) (.cells #[.bool false,vU6 0,vU8 0] 120)
 have HA:=veil hA
 have HS:=veil (h.below hA)
 have hz:((w.alloc (.cells #[vPt qb,vPt hb] 231)).alloc (.cells #[.bool false,vU6 0,vU8 0] 120)).heap.size=w.heap.size+2:=by simp
 have HZ:=veil hz
 have c1:((w.alloc (.cells #[vPt qb,vPt hb] 231)).alloc (.cells #[.bool false,vU6 0,vU8 0] 120)).cell? (vAt w.heap.size 1)=some (vPt hb):=by
  simp
 have CK:Hid (∀i,((w.alloc (.cells #[vPt qb,vPt hb] 231)).alloc (.cells #[.bool false,vU6 0,vU8 0] 120)).cell? (vAt (w.heap.size+1) i)=(#[.bool false,vU6 0,vU8 0]:Array Value)[i]?):=fun i=>by
  simp
 have CF:Hid (∀i,((w.alloc (.cells #[vPt qb,vPt hb] 231)).alloc (.cells #[.bool false,vU6 0,vU8 0] 120)).frozen? (vAt (w.heap.size+1) i)=false):=fun i=>by
  simp
 have C1:=veil c1
 clear h hA hz c1
 refine ge ?_
 go_wp2_with (first
  |(go_at_call 200;refine(Bq.level_none HS.out.q hi hr).mono ?_;rintro e w1 ⟨rfl,hb1⟩;have HS1:=veil (HS.out.below hb1);have HB1:=veil hb1;have x1:=(hb1.cell (p:=(vAt w.heap.size 1)) (by rw[HZ.out];simp)).trans C1.out;clear hb1)
  |(go_at_call 201;refine(Ph.hget_none HS1.out.h id hi hl).mono ?_;rintro e w2 ⟨rfl,hb2⟩;have HB2:=veil (HB1.out.trans (hb2.mono HB1.out.size));have s2:=HB2.out.size;have k0:=(HB2.out.cell (p:=(vA0 (w.heap.size+1))) (by simp)).trans (CK.out 0);have k1:=(HB2.out.cell (p:=(vAt (w.heap.size+1) 1)) (by simp)).trans (CK.out 1);have k2:=(HB2.out.cell (p:=(vAt (w.heap.size+1) 2)) (by simp)).trans (CK.out 2);have f0:=(World.frozen?_of_block (a:=(vA0 (w.heap.size+1))) (HB2.out.block (w.heap.size+1) (by simp))).trans (CF.out 0);have f1:=(World.frozen?_of_block (a:=(vAt (w.heap.size+1) 1)) (HB2.out.block (w.heap.size+1) (by simp))).trans (CF.out 1);have f2:=(World.frozen?_of_block (a:=(vAt (w.heap.size+1) 2)) (HB2.out.block (w.heap.size+1) (by simp))).trans (CF.out 2);have hW:=veil ((HA.out.trans (HB2.out.mono (by rw[HZ.out];omega))));clear hb2))
 refine bodyPost_ret (v:= .tuple #[.agg #[.bool false,vU6 0,vU8 0],.bool false]) ?_ rfl ?_
 ·simp[results,Tryz.f174,go_sem,k0,k1,k2]
 ·refine⟨rfl,?_⟩
  exact((hW.out.setCell (p:=(vA0 (w.heap.size+1))) (by simp) _).setCell (p:=(vAt (w.heap.size+1) 1)) (by simp) _).setCell (p:=(vAt (w.heap.size+1) 2)) (by simp) _
end
section
variable {S S':Nat→Prop} {w w' w'':World}
end
theorem Fr.of_q {b g:Nat} {w w':World} (h:Only b g w w'):Fr (fun k=>k=b∨k=g) w w':=⟨h.os,h.tape,h.output,h.size,fun k hk hn=>h.block k hk (by omega) (by omega)⟩
theorem Fr.of_h {b g:Nat} {w w':World} (h:Only b g w w'):Fr (fun k=>k=b∨k=g) w w':=⟨h.os,h.tape,h.output,h.size,fun k hk hn=>h.block k hk (by omega) (by omega)⟩
section
variable {w w':World} {sb qb gq hb gh n most turn:Nat} {R R':List (Nat×Nat)} {L L':List Ph.Item}
theorem St.ofQ (h:St w sb qb gq hb gh n most turn R L) (hq:Bq.IsQ w' qb gq n R') (hf:Fr (fun k=>k=qb∨k=gq) w w'):St w' sb qb gq hb gh n most turn R' L:=by
 have hne:=h.ne
 have k1: ¬(sb=qb∨sb=gq):=by omega
 have hbl:=h.h.blocks
 exact⟨(hf.cell (a:=(vA0 sb)) h.lt k1).trans h.c0,(hf.cell (a:=(vAt sb 1)) h.lt k1).trans h.c1,(hf.cell (a:=(vAt sb 2)) h.lt k1).trans h.c2,(hf.cell (a:=(vAt sb 3)) h.lt k1).trans h.c3,(hf.cell (a:=(vAt sb 4)) h.lt k1).trans h.c4,fun o=>(hf.frozen (a:=(vAt sb o)) h.lt k1).trans (h.fz o),hq,h.h.kept (hf.block hb hbl.1 (by omega)) (hf.block gh hbl.2.1 (by omega)),hne⟩
theorem St.ofH (h:St w sb qb gq hb gh n most turn R L) (hh:Ph.IsH w' hb gh n L') (hf:Fr (fun k=>k=hb∨k=gh) w w'):St w' sb qb gq hb gh n most turn R L':=by
 have hne:=h.ne
 have k1: ¬(sb=hb∨sb=gh):=by omega
 have hbl:=h.q.blocks
 exact⟨(hf.cell (a:=(vA0 sb)) h.lt k1).trans h.c0,(hf.cell (a:=(vAt sb 1)) h.lt k1).trans h.c1,(hf.cell (a:=(vAt sb 2)) h.lt k1).trans h.c2,(hf.cell (a:=(vAt sb 3)) h.lt k1).trans h.c3,(hf.cell (a:=(vAt sb 4)) h.lt k1).trans h.c4,fun o=>(hf.frozen (a:=(vAt sb o)) h.lt k1).trans (h.fz o),h.q.kept (hf.block qb hbl.1 (by omega)) (hf.block gq hbl.2.1 (by omega)),hh,hne⟩
theorem pkey_dead (h:St w sb qb gq hb gh n most turn R L) (id:Nat) (hi:id<n) (hr: ∀it∈R,it.1≠id) (d s:Nat) (hl:(id,d,s)∈L):
  vQ 174 #[.agg #[vPt qb,vPt hb],vI6 (id:Int)] w (.tuple #[.agg #[.bool true,vU6 (d:Int),vU8 0],.bool true]):=by
 have hA:=((Below.refl w.heap.size w).alloc lzr (.cells #[vPt qb,vPt hb] 231)).alloc (by simp) (.cells #[.bool false,vU6 0,vU8 0] 120)
 have HA:=veil hA
 have HS:=veil (h.below hA)
 have hz:((w.alloc (.cells #[vPt qb,vPt hb] 231)).alloc (.cells #[.bool false,vU6 0,vU8 0] 120)).heap.size=w.heap.size+2:=by simp
 have HZ:=veil hz
 have c1:((w.alloc (.cells #[vPt qb,vPt hb] 231)).alloc (.cells #[.bool false,vU6 0,vU8 0] 120)).cell? (vAt w.heap.size 1)=some (vPt hb):=by
  simp
 have CK:Hid (∀i,((w.alloc (.cells #[vPt qb,vPt hb] 231)).alloc (.cells #[.bool false,vU6 0,vU8 0] 120)).cell? (vAt (w.heap.size+1) i)=(#[.bool false,vU6 0,vU8 0]:Array Value)[i]?):=fun i=>by
  simp
 have CF:Hid (∀i,((w.alloc (.cells #[vPt qb,vPt hb] 231)).alloc (.cells #[.bool false,vU6 0,vU8 0] 120)).frozen? (vAt (w.heap.size+1) i)=false):=fun i=>by
  simp
 have C1:=veil c1
 clear h hA hz c1
 refine ge ?_
 go_wp2_with (first
  |(go_at_call 200;refine(Bq.level_none HS.out.q hi hr).mono ?_;rintro e w1 ⟨rfl,hb1⟩;have HS1:=veil (HS.out.below hb1);have HB1:=veil hb1;have x1:=(hb1.cell (p:=(vAt w.heap.size 1)) (by rw[HZ.out];simp)).trans C1.out;clear hb1)
  |(go_at_call 201;refine(Ph.hget_some HS1.out.h id d s hl).mono ?_;rintro e w3 ⟨rfl,hb3⟩;have HB3:=veil (HB1.out.trans (hb3.mono HB1.out.size));clear hb3)
  |(go_at_call 131;refine(Ke.dead_ok _ (d:Int)).mono ?_;rintro e w2 ⟨rfl,hb2⟩;have HB2:=veil (HB3.out.trans (hb2.mono HB3.out.size));have s2:=HB2.out.size;have k0:=(HB2.out.cell (p:=(vA0 (w.heap.size+1))) (by simp)).trans (CK.out 0);have k1:=(HB2.out.cell (p:=(vAt (w.heap.size+1) 1)) (by simp)).trans (CK.out 1);have k2:=(HB2.out.cell (p:=(vAt (w.heap.size+1) 2)) (by simp)).trans (CK.out 2);have f0:=(World.frozen?_of_block (a:=(vA0 (w.heap.size+1))) (HB2.out.block (w.heap.size+1) (by simp))).trans (CF.out 0);have f1:=(World.frozen?_of_block (a:=(vAt (w.heap.size+1) 1)) (HB2.out.block (w.heap.size+1) (by simp))).trans (CF.out 1);have f2:=(World.frozen?_of_block (a:=(vAt (w.heap.size+1) 2)) (HB2.out.block (w.heap.size+1) (by simp))).trans (CF.out 2);have hW:=veil ((HA.out.trans (HB2.out.mono (by rw[HZ.out];omega))));clear hb2))
 refine bodyPost_ret (v:= .tuple #[.agg #[.bool true,vU6 (d:Int),vU8 0],.bool true]) ?_ rfl ?_
 ·simp[results,Tryz.f174,go_sem,k0,k1,k2,Ke.deadK]
 ·refine⟨rfl,?_⟩
  exact((hW.out.setCell (p:=(vA0 (w.heap.size+1))) (by simp) _).setCell (p:=(vAt (w.heap.size+1) 1)) (by simp) _).setCell (p:=(vAt (w.heap.size+1) 2)) (by simp) _
theorem pput_level (h:St w sb qb gq hb gh n most turn R L) (id lv tn:Nat) (hi:id<n) (hlv:lv<256) (hno: ∀it∈R,it.1≠id):
  vCa 204 #[.agg #[vPt qb,vPt hb],vI6 (id:Int),.agg #[.bool false,vU6 0,vU8 (lv:Int)],vU6 (tn:Int)] w fun e w'=>e=vRt #[]∧St w' sb qb gq hb gh n most turn (R++[(id,lv)]) L∧Fr (fun k=>k=qb∨k=gq) w w':=by
 have hA:=((Below.refl w.heap.size w).alloc lzr (.cells #[vPt qb,vPt hb] 231)).alloc (by simp) (.cells #[.bool false,vU6 0,vU8 (lv:Int)] 120)
 have HA:=veil hA
 have HS:=veil (h.below hA)
 clear h hA
 refine ge ?_
 go_wp2_with (go_at_call 226;refine(Bq.push_ok _ qb gq n R id lv HS.out.q hi hlv hno).mono ?_;rintro e w1 ⟨rfl,hq,ho⟩;have HX:=veil (HS.out.ofQ hq (Fr.of_q ho));have HF:=veil ((Fr.of_below' HA.out).trans (Fr.of_q ho));clear hq ho)
 go_end0
 grind[RowKit.Hid.out]
theorem pput_dead (h:St w sb qb gq hb gh n most turn R L) (id d tn:Nat) (hi:id<n) (hno: ∀it∈L,it.1≠id):
  vCa 204 #[.agg #[vPt qb,vPt hb],vI6 (id:Int),.agg #[.bool true,vU6 (d:Int),vU8 0],vU6 (tn:Int)] w fun e w'=>e=vRt #[]∧St w' sb qb gq hb gh n most turn R (Ph.ins (id,d,tn) L)∧Fr (fun k=>k=hb∨k=gh) w w':=by
 have hA:=((Below.refl w.heap.size w).alloc lzr (.cells #[vPt qb,vPt hb] 231)).alloc (by simp) (.cells #[.bool true,vU6 (d:Int),vU8 0] 120)
 have HA:=veil hA
 have HS:=veil (h.below hA)
 clear h hA
 refine ge ?_
 go_wp2_with (go_at_call 225;refine(Ph.hinsert_ok HS.out.h id d tn hi hno).mono ?_;rintro e w1 ⟨rfl,hq,ho⟩;have HX:=veil (HS.out.ofH hq (Fr.of_h ho));have HF:=veil ((Fr.of_below' HA.out).trans (Fr.of_h ho));clear hq ho)
 go_end0
 grind[RowKit.Hid.out]
end
section
variable {w w':World} {sb qb gq hb gh n most turn:Nat} {R R':List (Nat×Nat)} {L L':List Ph.Item}
theorem St.turned (h:St w sb qb gq hb gh n most turn R L) (t:Nat):St (w.setCell (vAt sb 4) (vU6 (t:Int))) sb qb gq hb gh n most t R L:=by
 have hf:Fr (fun k=>k=sb) w (w.setCell (vAt sb 4) (vU6 (t:Int))):=Fr.setCell (S:=fun k=>k=sb) (a:=(vAt sb 4)) (Fr.refl _ _) rfl _
 have hne:=h.ne
 have b1:=h.q.blocks
 have b2:=h.h.blocks
 exact⟨by grind[Ph.set_other,St.c0],by grind[Ph.set_other,St.c1],by grind[Ph.set_other,St.c2],by grind[Ph.set_other,St.c3],Ph.set_same _ _ _ _ h.c4,fun o=>by grind[World.frozen?_setCell,St.fz],h.q.kept (hf.block qb b1.1 (by omega)) (hf.block gq b1.2.1 (by omega)),h.h.kept (hf.block hb b2.1 (by omega)) (hf.block gh b2.2.1 (by omega)),hne⟩
theorem smay_ok (h:St w sb qb gq hb gh n most turn R L) (id:Nat) (hi:id<n) (k:Ke.K) (hk:Ke.rightK k=true):
  vQ 173 #[vPt sb,vI6 (id:Int),.agg (vKy k)] w (vI6 0):=by
 have c2:=h.c2
 have hlt:=h.lt
 have hn:=h.h.nle
 have hR:=fun W=>by
  have:=Ke.right_ok W k
  rw[hk] at this
  exact this
 have HR:=veil hR
 clear h hR hk
 refine ge ?_
 go_wp2_with (go_at_call 129;refine(HR.out _).mono ?_;rintro e w1 ⟨rfl,hb1⟩;have HB:=veil (((Below.refl w.heap.size w).alloc lzr _).trans (hb1.mono (by simp)));clear hb1)
 go_ret
 exact⟨rfl,HB.out⟩
theorem slen_ok (h:St w sb qb gq hb gh n most turn R L) (hl:R.length+L.length≤4096):
  vQ 159 #[vPt sb] w (vI6 ((R.length+L.length:Nat):Int)):=by
 have c0:=h.c0
 have c1:=h.c1
 have HQ:=veil h.q
 have HH:=veil h.h
 have hwr:IntKind.i64.wrap ((R.length:Int)+(L.length:Int))=(R.length:Int)+(L.length:Int):=by simp[IntKind.wrap,IntKind.bits,IntKind.signed];omega
 clear h
 refine ge ?_
 go_wp2
 go_region_held3 (fun w'=>w'.cell? (vA0 sb)=some (vPt qb)∧w'.cell? (vAt sb 1)=some (vPt hb))
  (first|go_keep)
  (first
   |(go_at_call 187;refine cS (Bq.len_is _ qb gq n R (HQ.out.kept (w':=w.drew) rfl rfl)) ?_)
   |(go_at_call 188;refine cS (Ph.hlen_ok (HH.out.kept (w':=w.drew) rfl rfl)) ?_))
 go_wp2
 go_ret
 exact⟨by simp,bzR.drew⟩
theorem sput_level (h:St w sb qb gq hb gh n most turn R L) (ht:turn≤1000000000) (id lv:Nat) (hi:id<n) (hlv:lv<256) (hno: ∀it∈R,it.1≠id):
  vCa 176 #[vPt sb,vI6 (id:Int),.agg #[.bool false,vU6 0,vU8 (lv:Int)]] w fun e w'=>e=vRt #[]∧St w' sb qb gq hb gh n most (turn+1) (R++[(id,lv)]) L∧Fr (fun k=>k=sb∨k=qb∨k=gq) w w':=by
 have hA:=(Below.refl w.heap.size w).alloc lzr (.cells #[.bool false,vU6 0,vU8 (lv:Int)] 120)
 have hS:=h.below hA
 have c0:=hS.c0
 have c1:=hS.c1
 have c4:=hS.c4
 have HA:=veil hA
 have HS:=veil hS
 have HP:=veil (fun q=>pput_level (hS.below (below_drewN bzR q)) id lv turn hi hlv hno)
 have HC:Hid (∀i v,i<3→(#[.bool false,vU6 0,vU8 (lv:Int)]:Array Value)[i]? =some v→(w.alloc (.cells #[.bool false,vU6 0,vU8 (lv:Int)] 120)).cell? (vAt w.heap.size i)=some v):=fun i v _ e=>by simp_all
 have NQ:Hid (¬(w.heap.size=qb∨w.heap.size=gq)):=by have:=h.q.blocks;unfold Hid;omega
 clear h hS hA
 refine ge ?_
 go_wp2
 go_region_held3 (fun w'=>w'.cell? (vA0 sb)=some (vPt qb)∧w'.cell? (vAt sb 1)=some (vPt hb)∧w'.cell? (vAt sb 4)=some (vU6 (turn:Int))∧w'.cell? (vA0 w.heap.size)=some (.bool false)∧w'.cell? (vAt w.heap.size 1)=some (vU6 0)∧w'.cell? (vAt w.heap.size 2)=some (vU8 (lv:Int)))
  (first|exact HK.out|go_keep)
  ((go_at_call 204;refine(HP.out 1).mono ?_;rintro e w1 ⟨rfl,hx,hf⟩;have HX:=veil hx;have HF:=veil hf;have d4:=hx.c4;have f4:=hx.fz 4;have hsb:=hx.lt;have HK:=veil (And.intro hx.c0 (And.intro hx.c1 (And.intro hx.c4 (And.intro ((hf.cell (a:=(vA0 w.heap.size)) (by simp) NQ.out).trans (HC.out 0 _ (by decide) rfl)) (And.intro ((hf.cell (a:=(vAt w.heap.size 1)) (by simp) NQ.out).trans (HC.out 1 _ (by decide) rfl)) ((hf.cell (a:=(vAt w.heap.size 2)) (by simp) NQ.out).trans (HC.out 2 _ (by decide) rfl)))))));clear hx hf))
 go_wp2
 go_end0
 exact⟨rfl,HX.out.turned (turn+1),Fr.setCell (S:=fun k=>k=sb∨k=qb∨k=gq) (a:=(vAt sb 4)) (((Fr.of_below' HA.out).drewN 1).trans (HF.out.wide (by omega))) (.inl rfl) _⟩
theorem sput_dead (h:St w sb qb gq hb gh n most turn R L) (ht:turn≤1000000000) (id d:Nat) (hi:id<n) (hno: ∀it∈L,it.1≠id):
  vCa 176 #[vPt sb,vI6 (id:Int),.agg #[.bool true,vU6 (d:Int),vU8 0]] w fun e w'=>e=vRt #[]∧St w' sb qb gq hb gh n most (turn+1) R (Ph.ins (id,d,turn) L)∧Fr (fun k=>k=sb∨k=hb∨k=gh) w w':=by
 have hA:=(Below.refl w.heap.size w).alloc lzr (.cells #[.bool true,vU6 (d:Int),vU8 0] 120)
 have hS:=h.below hA
 have c0:=hS.c0
 have c1:=hS.c1
 have c4:=hS.c4
 have HA:=veil hA
 have HS:=veil hS
 have HP:=veil (fun q=>pput_dead (hS.below (below_drewN bzR q)) id d turn hi hno)
 have HC:Hid (∀i v,i<3→(#[.bool true,vU6 (d:Int),vU8 0]:Array Value)[i]? =some v→(w.alloc (.cells #[.bool true,vU6 (d:Int),vU8 0] 120)).cell? (vAt w.heap.size i)=some v):=fun i v _ e=>by simp_all
 have NQ:Hid (¬(w.heap.size=hb∨w.heap.size=gh)):=by have:=h.h.blocks;unfold Hid;omega
 clear h hS hA
 refine ge ?_
 go_wp2
 go_region_held3 (fun w'=>w'.cell? (vA0 sb)=some (vPt qb)∧w'.cell? (vAt sb 1)=some (vPt hb)∧w'.cell? (vAt sb 4)=some (vU6 (turn:Int))∧w'.cell? (vA0 w.heap.size)=some (.bool true)∧w'.cell? (vAt w.heap.size 1)=some (vU6 (d:Int))∧w'.cell? (vAt w.heap.size 2)=some (vU8 0))
  (first|exact HK.out|go_keep)
  ((go_at_call 204;refine(HP.out 1).mono ?_;rintro e w1 ⟨rfl,hx,hf⟩;have HX:=veil hx;have HF:=veil hf;have d4:=hx.c4;have f4:=hx.fz 4;have hsb:=hx.lt;have HK:=veil (And.intro hx.c0 (And.intro hx.c1 (And.intro hx.c4 (And.intro ((hf.cell (a:=(vA0 w.heap.size)) (by simp) NQ.out).trans (HC.out 0 _ (by decide) rfl)) (And.intro ((hf.cell (a:=(vAt w.heap.size 1)) (by simp) NQ.out).trans (HC.out 1 _ (by decide) rfl)) ((hf.cell (a:=(vAt w.heap.size 2)) (by simp) NQ.out).trans (HC.out 2 _ (by decide) rfl)))))));clear hx hf))
 go_wp2
 go_end0
 exact⟨rfl,HX.out.turned (turn+1),Fr.setCell (S:=fun k=>k=sb∨k=hb∨k=gh) (a:=(vAt sb 4)) (((Fr.of_below' HA.out).drewN 1).trans (HF.out.wide (by omega))) (.inl rfl) _⟩
end
section
variable {w w':World} {sb qb gq hb gh n most turn:Nat} {R R':List (Nat×Nat)} {L L':List Ph.Item}
theorem sPut_level (h:St w sb qb gq hb gh n most turn R L) (ht:turn≤1000000000) (id lv:Nat) (hi:id<n) (hlv:lv<256) (hr: ∀it∈R,it.1≠id) (hl: ∀it∈L,it.1≠id) (hlen:R.length+L.length<most) (hm:most≤1024):
  vCa 148 #[vPt sb,vI6 (id:Int),.agg #[.bool false,vU6 0,vU8 (lv:Int)]] w fun e w'=>e= .returned (vI6 0)∧St w' sb qb gq hb gh n most (turn+1) (R++[(id,lv)]) L∧Fr (fun k=>k=sb∨k=qb∨k=gq) w w':=by
 have hA:=(Below.refl w.heap.size w).alloc lzr (.cells #[.bool false,vU6 0,vU8 (lv:Int)] 120)
 have hS:=h.below hA
 have hz:(w.alloc (.cells #[.bool false,vU6 0,vU8 (lv:Int)] 120)).heap.size=w.heap.size+1:=by simp
 have HZ:=veil hz
 have hMay:=smay_ok hS id hi ⟨false,0,(lv:Int)⟩ (by exact mK)
 have HMay:=veil hMay
 have hlt:=h.lt
 have HS:=veil hS
 have HA:=veil hA
 have HB0:Hid (∀W,Below (w.heap.size+1) (w.alloc (.cells #[.bool false,vU6 0,vU8 (lv:Int)] 120)) W→St W sb qb gq hb gh n most turn R L∧W.cell? (vA0 w.heap.size)=(#[.bool false,vU6 0,vU8 (lv:Int)]:Array Value)[0]? ∧W.cell? (vAt w.heap.size 1)=(#[.bool false,vU6 0,vU8 (lv:Int)]:Array Value)[1]? ∧W.cell? (vAt w.heap.size 2)=(#[.bool false,vU6 0,vU8 (lv:Int)]:Array Value)[2]? ∧w.heap.size+1≤W.heap.size):=fun W hW=>by
  refine⟨hS.below (by show Below _ _ _;rw[hz];exact hW),?_,?_,?_,by rw[←hz];exact hW.size⟩
  ·rw[hW.cell (p:=(vA0 w.heap.size)) (by simp),cell_new]
  ·rw[hW.cell (p:=(vAt w.heap.size 1)) (by simp),cell_new]
  ·rw[hW.cell (p:=(vAt w.heap.size 2)) (by simp),cell_new]
 have HRL:=veil hlen
 have HIR:=veil hr
 have HIL:=veil hl
 clear h hS hA hz hMay hlen hr hl
 refine ge ?_
 go_wp2_with (first
  |(go_at_call 173;refine(HMay.out).mono ?_;rintro e w1 ⟨rfl,hb1⟩;have HB1:=veil (show Below (w.heap.size+1) _ w1 by rw[←HZ.out];exact hb1);obtain⟨hs1,k10,k11,k12,hz1⟩:=HB0.out _ HB1.out;have HS1:=veil hs1;have c10:=hs1.c0;have c11:=hs1.c1;clear hb1 hs1)
  |(go_at_call 174;refine(pkey_none HS1.out id hi HIR.out HIL.out).mono ?_;rintro e w2 ⟨rfl,hb2⟩;have HB2:=veil (HB1.out.trans (hb2.mono hz1));obtain⟨hs2,k20,k21,k22,hz2⟩:=HB0.out _ HB2.out;have HS2:=veil hs2;have c23:=hs2.c3;clear hb2 hs2))
 have HW3:=veil (show Below (w.heap.size+1) (w.alloc (.cells #[.bool false,vU6 0,vU8 (lv:Int)] 120)) ((w2.alloc (.cells #[.bool false,vU6 0,vU8 0] 120)).drew) from(HB2.out.alloc hz2 _).drew)
 have HS3:=veil (HB0.out _ HW3.out).1
 have c33:=HS3.out.c3
 have hll:R.length+L.length≤4096:=by have:=HRL.out;omega
 generalize hNN:R.length+L.length=NN at*
 have HLn:Hid (vQ 159 #[vPt sb] ((w2.alloc (.cells #[.bool false,vU6 0,vU8 0] 120)).drew) (vI6 (NN:Int))):=by
  grind[slen_ok,RowKit.Hid.out]
 have hne: ¬(NN:Int)=(most:Int):=by have:=HRL.out;omega
 have hne2: ¬NN=most:=by have:=HRL.out;omega
 clear k10 k11 k12 k20 k21 k22 c10 c11 c23 hNN
 go_region_held3 (fun w'=>w'.cell? (vAt sb 3)=some (vI6 (most:Int)))
  (first|exact c43|go_keep)
  ((go_at_call 159;refine(HLn.out).mono ?_;rintro e w3 ⟨rfl,hb3⟩;have HB3:=veil (HW3.out.trans (hb3.mono (by simp;omega)));obtain⟨hs3,k30,k31,k32,hz3⟩:=HB0.out _ HB3.out;have HS4:=veil hs3;have c43:=hs3.c3;clear hb3 hs3))
 have HPut:=veil (sput_level HS4.out ht id lv hi hlv HIR.out)
 go_wp2_with (go_at_call 176;refine cI HPut.out fun w4 HX HF=> ?_)
 go_ret
 exact⟨rfl,HX.out,(Fr.of_below' (((Below.refl w.heap.size w).alloc lzr _).trans (HB3.out.mono (by omega)))).trans HF.out⟩
theorem sPut_dead (h:St w sb qb gq hb gh n most turn R L) (ht:turn≤1000000000) (id d:Nat) (hi:id<n) (hr: ∀it∈R,it.1≠id) (hl: ∀it∈L,it.1≠id) (hlen:R.length+L.length<most) (hm:most≤1024):
  vCa 148 #[vPt sb,vI6 (id:Int),.agg #[.bool true,vU6 (d:Int),vU8 0]] w fun e w'=>e= .returned (vI6 0)∧St w' sb qb gq hb gh n most (turn+1) R (Ph.ins (id,d,turn) L)∧Fr (fun k=>k=sb∨k=hb∨k=gh) w w':=by
 have hA:=(Below.refl w.heap.size w).alloc lzr (.cells #[.bool true,vU6 (d:Int),vU8 0] 120)
 have hS:=h.below hA
 have hz:(w.alloc (.cells #[.bool true,vU6 (d:Int),vU8 0] 120)).heap.size=w.heap.size+1:=by simp
 have HZ:=veil hz
 have hMay:=smay_ok hS id hi ⟨true,(d:Int),0⟩ (by exact mK)
 have HMay:=veil hMay
 have hlt:=h.lt
 have HS:=veil hS
 have HA:=veil hA
 have HB0:Hid (∀W,Below (w.heap.size+1) (w.alloc (.cells #[.bool true,vU6 (d:Int),vU8 0] 120)) W→St W sb qb gq hb gh n most turn R L∧W.cell? (vA0 w.heap.size)=(#[.bool true,vU6 (d:Int),vU8 0]:Array Value)[0]? ∧W.cell? (vAt w.heap.size 1)=(#[.bool true,vU6 (d:Int),vU8 0]:Array Value)[1]? ∧W.cell? (vAt w.heap.size 2)=(#[.bool true,vU6 (d:Int),vU8 0]:Array Value)[2]? ∧w.heap.size+1≤W.heap.size):=fun W hW=>by
  refine⟨hS.below (by show Below _ _ _;rw[hz];exact hW),?_,?_,?_,by rw[←hz];exact hW.size⟩
  ·rw[hW.cell (p:=(vA0 w.heap.size)) (by simp),cell_new]
  ·rw[hW.cell (p:=(vAt w.heap.size 1)) (by simp),cell_new]
  ·rw[hW.cell (p:=(vAt w.heap.size 2)) (by simp),cell_new]
 have HRL:=veil hlen
 have HIR:=veil hr
 have HIL:=veil hl
 clear h hS hA hz hMay hlen hr hl
 refine ge ?_
 go_wp2_with (first
  |(go_at_call 173;refine(HMay.out).mono ?_;rintro e w1 ⟨rfl,hb1⟩;have HB1:=veil (show Below (w.heap.size+1) _ w1 by rw[←HZ.out];exact hb1);obtain⟨hs1,k10,k11,k12,hz1⟩:=HB0.out _ HB1.out;have HS1:=veil hs1;have c10:=hs1.c0;have c11:=hs1.c1;clear hb1 hs1)
  |(go_at_call 174;refine(pkey_none HS1.out id hi HIR.out HIL.out).mono ?_;rintro e w2 ⟨rfl,hb2⟩;have HB2:=veil (HB1.out.trans (hb2.mono hz1));obtain⟨hs2,k20,k21,k22,hz2⟩:=HB0.out _ HB2.out;have HS2:=veil hs2;have c23:=hs2.c3;clear hb2 hs2))
 have HW3:=veil (show Below (w.heap.size+1) (w.alloc (.cells #[.bool true,vU6 (d:Int),vU8 0] 120)) ((w2.alloc (.cells #[.bool false,vU6 0,vU8 0] 120)).drew) from(HB2.out.alloc hz2 _).drew)
 have HS3:=veil (HB0.out _ HW3.out).1
 have c33:=HS3.out.c3
 have hll:R.length+L.length≤4096:=by have:=HRL.out;omega
 generalize hNN:R.length+L.length=NN at*
 have HLn:Hid (vQ 159 #[vPt sb] ((w2.alloc (.cells #[.bool false,vU6 0,vU8 0] 120)).drew) (vI6 (NN:Int))):=by
  grind[slen_ok,RowKit.Hid.out]
 have hne: ¬(NN:Int)=(most:Int):=by have:=HRL.out;omega
 have hne2: ¬NN=most:=by have:=HRL.out;omega
 clear k10 k11 k12 k20 k21 k22 c10 c11 c23 hNN
 go_region_held3 (fun w'=>w'.cell? (vAt sb 3)=some (vI6 (most:Int)))
  (first|exact c43|go_keep)
  ((go_at_call 159;refine(HLn.out).mono ?_;rintro e w3 ⟨rfl,hb3⟩;have HB3:=veil (HW3.out.trans (hb3.mono (by simp;omega)));obtain⟨hs3,k30,k31,k32,hz3⟩:=HB0.out _ HB3.out;have HS4:=veil hs3;have c43:=hs3.c3;clear hb3 hs3))
 have HPut:=veil (sput_dead HS4.out ht id d hi HIL.out)
 go_wp2_with (go_at_call 176;refine cI HPut.out fun w4 HX HF=> ?_)
 go_ret
 exact⟨rfl,HX.out,(Fr.of_below' (((Below.refl w.heap.size w).alloc lzr _).trans (HB3.out.mono (by omega)))).trans HF.out⟩
end
section
variable {w w':World} {sb qb gq hb gh n most turn:Nat} {R R':List (Nat×Nat)} {L L':List Ph.Item}
theorem St.frame {S:Nat→Prop} (h:St w sb qb gq hb gh n most turn R L) (hf:Fr S w w') (n0: ¬S sb) (n1: ¬S qb) (n2: ¬S gq) (n3: ¬S hb) (n4: ¬S gh):St w' sb qb gq hb gh n most turn R L:=by
 have b1:=h.q.blocks
 have b2:=h.h.blocks
 exact⟨(hf.cell (a:=(vA0 sb)) h.lt n0).trans h.c0,(hf.cell (a:=(vAt sb 1)) h.lt n0).trans h.c1,(hf.cell (a:=(vAt sb 2)) h.lt n0).trans h.c2,(hf.cell (a:=(vAt sb 3)) h.lt n0).trans h.c3,(hf.cell (a:=(vAt sb 4)) h.lt n0).trans h.c4,fun o=>(hf.frozen (a:=(vAt sb o)) h.lt n0).trans (h.fz o),h.q.kept (hf.block qb b1.1 n1) (hf.block gq b1.2.1 n2),h.h.kept (hf.block hb b2.1 n3) (hf.block gh b2.2.1 n4),h.ne⟩
theorem pfirst_heap {x:Ph.Item} (h:St w sb qb gq hb gh n most turn R (x::L)):
  vQ 186 #[.agg #[vPt qb,vPt hb]] w (.tuple #[vI6 (x.1:Int),.bool true]):=by
 have hA:=(Below.refl w.heap.size w).alloc lzr (.cells #[vPt qb,vPt hb] 231)
 have HA:=veil hA
 have HM:=veil (Ph.hmin_ok (h.below hA).h)
 clear h hA
 refine ge ?_
 go_wp2_with (go_at_call 217;refine(HM.out).mono ?_;rintro e w1 ⟨rfl,q,hw⟩;have HB:=veil (below_drewN HA.out q);subst hw)
 go_ret2
 exact⟨rfl,HB.out⟩
theorem sremove_heap (h:St w sb qb gq hb gh n most turn R L) (id d s:Nat) (hr: ∀it∈R,it.1≠id) (hl:(id,d,s)∈L):
  vCa 175 #[vPt sb,vI6 (id:Int)] w fun e w'=>e= .returned (vI6 0)∧St w' sb qb gq hb gh n most turn R (Ph.out id L)∧Fr (fun k=>k=hb∨k=gh) w w':=by
 have hi:=h.h.good.rng _ hl
 have c0:=h.c0
 have c1:=h.c1
 have HS:=veil h
 have HR:=veil (Bq.remove_none h.q hi hr)
 have HD:=veil (Ph.hdelete_ok h.h id d s hl)
 clear h hr hl
 refine ge ?_
 go_wp2_with (first
  |(go_at_call 202;refine cS HR.out ?_)
  |(go_at_call 203;refine(HD.out).mono ?_;rintro e w2 ⟨rfl,hq,ho⟩;have HX:=veil (HS.out.ofH hq (Fr.of_h ho));have HF:=veil (Fr.of_h ho);clear hq ho))
 go_ret
 exact⟨rfl,HX.out,HF.out⟩
end
def Own (qb gq hb gh:Nat) (k:Nat):Prop:=(k=qb∨k=gq)∨k=hb∨k=gh
section
variable {w w':World} {sb qb gq hb gh n most turn:Nat} {R R':List (Nat×Nat)} {L L':List Ph.Item}
theorem pkey_level {R1 R2:List (Nat×Nat)} {id lv:Nat} (h:St w sb qb gq hb gh n most turn (R1++(id,lv)::R2) L):
  vQ 174 #[.agg #[vPt qb,vPt hb],vI6 (id:Int)] w (.tuple #[.agg #[.bool false,vU6 0,vU8 (lv:Int)],.bool true]):=by
 have hA:=((Below.refl w.heap.size w).alloc lzr (.cells #[vPt qb,vPt hb] 231)).alloc (by simp) (.cells #[.bool false,vU6 0,vU8 0] 120)
 have HA:=veil hA
 have HS:=veil (h.below hA)
 have hz:((w.alloc (.cells #[vPt qb,vPt hb] 231)).alloc (.cells #[.bool false,vU6 0,vU8 0] 120)).heap.size=w.heap.size+2:=by simp
 have HZ:=veil hz
 have c1:((w.alloc (.cells #[vPt qb,vPt hb] 231)).alloc (.cells #[.bool false,vU6 0,vU8 0] 120)).cell? (vAt w.heap.size 1)=some (vPt hb):=by
  simp
 have CK:Hid (∀i,((w.alloc (.cells #[vPt qb,vPt hb] 231)).alloc (.cells #[.bool false,vU6 0,vU8 0] 120)).cell? (vAt (w.heap.size+1) i)=(#[.bool false,vU6 0,vU8 0]:Array Value)[i]?):=fun i=>by
  simp
 have CF:Hid (∀i,((w.alloc (.cells #[vPt qb,vPt hb] 231)).alloc (.cells #[.bool false,vU6 0,vU8 0] 120)).frozen? (vAt (w.heap.size+1) i)=false):=fun i=>by
  simp
 have C1:=veil c1
 clear h hA hz c1
 refine ge ?_
 go_wp2_with (first
  |(go_at_call 200;refine cH (Bq.level_some HS.out.q) fun w3 HB3=> ?_)
  |(go_at_call 68;refine(Ke.fixed_ok _ (lv:Int)).mono ?_;rintro e w2 ⟨rfl,hb2⟩;have HB2:=veil (HB3.out.trans (hb2.mono HB3.out.size));have s2:=HB2.out.size;have k0:=(HB2.out.cell (p:=(vA0 (w.heap.size+1))) (by simp)).trans (CK.out 0);have k1:=(HB2.out.cell (p:=(vAt (w.heap.size+1) 1)) (by simp)).trans (CK.out 1);have k2:=(HB2.out.cell (p:=(vAt (w.heap.size+1) 2)) (by simp)).trans (CK.out 2);have f0:=(World.frozen?_of_block (a:=(vA0 (w.heap.size+1))) (HB2.out.block (w.heap.size+1) (by simp))).trans (CF.out 0);have f1:=(World.frozen?_of_block (a:=(vAt (w.heap.size+1) 1)) (HB2.out.block (w.heap.size+1) (by simp))).trans (CF.out 1);have f2:=(World.frozen?_of_block (a:=(vAt (w.heap.size+1) 2)) (HB2.out.block (w.heap.size+1) (by simp))).trans (CF.out 2);have hW:=veil ((HA.out.trans (HB2.out.mono (by rw[HZ.out];omega))));clear hb2))
 refine bodyPost_ret (v:= .tuple #[.agg #[.bool false,vU6 0,vU8 (lv:Int)],.bool true]) ?_ rfl ?_
 ·simp[results,Tryz.f174,go_sem,k0,k1,k2,Ke.fixK]
 ·refine⟨rfl,?_⟩
  exact((hW.out.setCell (p:=(vA0 (w.heap.size+1))) (by simp) _).setCell (p:=(vAt (w.heap.size+1) 1)) (by simp) _).setCell (p:=(vAt (w.heap.size+1) 2)) (by simp) _
theorem stop_any (h:St w sb qb gq hb gh n most turn R L) (id:Nat) (k:Ke.K) (hF: ∀W,St W sb qb gq hb gh n most turn R L→Calls Tryz.prog 186 #[.agg #[.pointer (some ⟨qb,0,none⟩),.pointer (some ⟨hb,0,none⟩)]] W fun e w'=>e= .returned (.tuple #[.int .i64 (id:Int),.bool true])∧Below W.heap.size W w') (hK: ∀W,St W sb qb gq hb gh n most turn R L→Calls Tryz.prog 174 #[.agg #[.pointer (some ⟨qb,0,none⟩),.pointer (some ⟨hb,0,none⟩)],.int .i64 (id:Int)] W fun e w'=>e= .returned (.tuple #[.agg #[.bool k.e,.int .u64 k.d,.int .u8 k.l],.bool true])∧Below W.heap.size W w'):
  Calls Tryz.prog 158 #[.pointer (some ⟨sb,0,none⟩)] w fun e w'=>e= .returned (.tuple #[.int .i64 (id:Int),.agg #[.bool k.e,.int .u64 k.d,.int .u8 k.l],.bool true])∧Below w.heap.size w w':=by
 have hA:=(Below.refl w.heap.size w).alloc lzr (.cells #[.bool false,.int .u64 0,.int .u8 0] 120)
 have hS:=h.below hA
 have hz:(w.alloc (.cells #[.bool false,.int .u64 0,.int .u8 0] 120)).heap.size=w.heap.size+1:=by simp
 have HZ:=veil hz
 have c0:=hS.c0
 have c1:=hS.c1
 have HS:=veil hS
 have HFC:=veil hF
 have HKC:=veil hK
 have HB0:Hid (∀W,Below (w.heap.size+1) (w.alloc (.cells #[.bool false,.int .u64 0,.int .u8 0] 120)) W→St W sb qb gq hb gh n most turn R L∧(∀i,W.cell? ⟨w.heap.size,i,none⟩=(#[.bool false,.int .u64 0,.int .u8 0]:Array Value)[i]?)∧(∀i,W.frozen? ⟨w.heap.size,i,none⟩=false)∧w.heap.size+1≤W.heap.size∧Below w.heap.size w W):=fun W hW=>by
  refine⟨hS.below (by rw[←hz] at hW;exact hW),fun i=> ?_,fun i=> ?_,by rw[←hz];exact hW.size,hA.trans (hW.mono (by omega))⟩
  ·rw[hW.cell (p:=⟨w.heap.size,i,none⟩) (by simp),cell_new]
  ·rw[World.frozen?_of_block (a:=⟨w.heap.size,i,none⟩) (hW.block w.heap.size (by omega)),frozen_new]
 clear h hF hK hS hA hz
 refine ge ?_
 go_wp2_with (first
  |(go_at_call 186;refine(HFC.out _ HS.out).mono ?_;rintro e w1 ⟨rfl,hb1⟩;have HB1:=veil (show Below (w.heap.size+1) _ w1 by rw[←HZ.out];exact hb1);obtain⟨hs1,_,_,hz1,_⟩:=HB0.out _ HB1.out;have HS1:=veil hs1;have c10:=hs1.c0;have c11:=hs1.c1;clear hb1 hs1)
  |(go_at_call 174;refine(HKC.out _ HS1.out).mono ?_;rintro e w2 ⟨rfl,hb2⟩;have HB2:=veil (HB1.out.trans (hb2.mono hz1));have HB2s:=veil hb2;obtain⟨_,kc,fc,hz2,hB2⟩:=HB0.out _ HB2.out;have HBW:=veil hB2;have HB3:=veil (HB0.out _ (HB2.out.alloc hz2 (.cells #[.bool k.e,.int .u64 k.d,.int .u8 k.l] 120)));have k0:=HB3.out.2.1 0;have k1:=HB3.out.2.1 1;have k2:=HB3.out.2.1 2;have f0:=HB3.out.2.2.1 0;have f1:=HB3.out.2.2.1 1;have f2:=HB3.out.2.2.1 2;clear hb2 kc fc hB2))
 have hsz2:=hz2
 have y0: ¬w2.heap.size=w.heap.size:=by omega
 have y1: ¬w.heap.size=w2.heap.size:=by omega
 go_region_held3 (fun w'=>w'.cell? ⟨w2.heap.size,0,none⟩=some (.bool k.e)∧w'.cell? ⟨w2.heap.size,1,none⟩=some (.int .u64 k.d)∧w'.cell? ⟨w2.heap.size,2,none⟩=some (.int .u8 k.l))
  (first|go_keep)
  (fail)
 go_wp2
 refine bodyPost_ret (v:= .tuple #[.int .i64 (id:Int),.agg #[.bool k.e,.int .u64 k.d,.int .u8 k.l],.bool true]) ?_ rfl ?_
 ·simp[results,Tryz.f158,go_sem,k0,k1,k2]
 ·refine⟨rfl,?_⟩
  exact((((HBW.out.alloc (by omega) _).setCell (p:=⟨w.heap.size,0,none⟩) lzr _).setCell (p:=⟨w.heap.size,1,none⟩) lzr _).setCell (p:=⟨w.heap.size,2,none⟩) lzr _).drew
theorem pfirst_queue {id lv:Nat} {rest:List Nat} (h:St w sb qb gq hb gh n most turn R []) (hbst:Bq.Best R lv) (hq:Bq.QL R lv=(id+1)::rest):
  vQ 186 #[.agg #[vPt qb,vPt hb]] w (.tuple #[vI6 (id:Int),.bool true]):=by
 have hA:=(Below.refl w.heap.size w).alloc lzr (.cells #[vPt qb,vPt hb] 231)
 have HA:=veil hA
 have HM:=veil (Ph.hmin_none (h.below hA).h)
 have HT:=veil (Bq.top_some _ qb gq n R id lv rest (h.below hA).q hbst hq)
 clear h hA hbst hq
 refine ge ?_
 go_wp2_with (first
  |(go_at_call 217;refine cS HM.out ?_)
  |(go_at_call 218;refine(HT.out).mono ?_;rintro e w2 ⟨rfl,hw⟩;have HB:=veil (HA.out.trans (hw.mono HA.out.size));clear hw))
 go_ret2
 exact⟨rfl,HB.out⟩
theorem pfirst_none (h:St w sb qb gq hb gh n most turn [] []):
  vQ 186 #[.agg #[vPt qb,vPt hb]] w (.tuple #[vI6 0,.bool false]):=by
 have hA:=(Below.refl w.heap.size w).alloc lzr (.cells #[vPt qb,vPt hb] 231)
 have HA:=veil hA
 have HM:=veil (Ph.hmin_none (h.below hA).h)
 have HT:=veil (Bq.top_none _ qb gq n (h.below hA).q)
 clear h hA
 refine ge ?_
 go_wp2_with (first
  |(go_at_call 217;refine cS HM.out ?_)
  |(go_at_call 218;refine(HT.out).mono ?_;rintro e w2 ⟨rfl,hw⟩;have HB:=veil (HA.out.trans (hw.mono HA.out.size));clear hw))
 go_ret2
 exact⟨rfl,HB.out⟩
theorem sremove_queue {R1 R2:List (Nat×Nat)} {id lv:Nat} (h:St w sb qb gq hb gh n most turn (R1++(id,lv)::R2) L):
  vCa 175 #[vPt sb,vI6 (id:Int)] w fun e w'=>e= .returned (vI6 0)∧St w' sb qb gq hb gh n most turn (R1++R2) L∧Fr (fun k=>k=qb∨k=gq) w w':=by
 have c0:=h.c0
 have c1:=h.c1
 have HS:=veil h
 have HR:=veil (Bq.remove_some h.q)
 clear h
 refine ge ?_
 go_wp2_with (first
  |(go_at_call 202;refine(HR.out).mono ?_;rintro e w2 ⟨rfl,hq,ho⟩;have HX:=veil (HS.out.ofQ hq (Fr.of_q ho));have HF:=veil (Fr.of_q ho);clear hq ho))
 go_ret
 exact⟨rfl,HX.out,HF.out⟩
theorem sremove_none (h:St w sb qb gq hb gh n most turn R L) (id:Nat) (hi:id<n) (hr: ∀it∈R,it.1≠id) (hl: ∀it∈L,it.1≠id):
  vS 175 #[vPt sb,vI6 (id:Int)] w (vI6 6):=by
 have c0:=h.c0
 have c1:=h.c1
 have HR:=veil (Bq.remove_none h.q hi hr)
 have HD:=veil (Ph.hdelete_none h.h id hi hl)
 clear h hr hl
 refine ge ?_
 go_wp2_with (first
  |(go_at_call 202;refine cS HR.out ?_)
  |(go_at_call 203;refine cS HD.out ?_))
 go_ret
 simp
theorem sremove_range (h:St w sb qb gq hb gh n most turn R L) (id:Int) (hi:id<0∨(n:Int)≤id):
  vS 175 #[vPt sb,vI6 id] w (vI6 2):=by
 have c0:=h.c0
 have c1:=h.c1
 have HR:=veil (Bq.remove_range h.q id hi)
 clear h hi
 refine ge ?_
 go_wp2_with (first
  |(go_at_call 202;refine cS HR.out ?_))
 go_ret
 simp
theorem stop_none (h:St w sb qb gq hb gh n most turn [] []):
  vQ 158 #[vPt sb] w (.tuple #[vI6 0,.agg #[.bool false,vU6 0,vU8 0],.bool false]):=by
 have hz:(w.alloc (.cells #[.bool false,vU6 0,vU8 0] 120)).heap.size=w.heap.size+1:=by simp
 have HZ:=veil hz
 have hS:=h.below ((Below.refl w.heap.size w).alloc lzr (.cells #[.bool false,vU6 0,vU8 0] 120))
 have c0:=hS.c0
 have c1:=hS.c1
 have HS:=veil hS
 clear hz h hS
 refine ge ?_
 go_wp2_with (go_at_call 186;refine(pfirst_none HS.out).mono ?_;rintro e w1 ⟨rfl,hb1⟩;have HB:=veil (((Below.refl w.heap.size w).alloc lzr (.cells #[.bool false,vU6 0,vU8 0] 120)).trans (hb1.mono (by simp)));have hz1:w.heap.size+1≤w1.heap.size:=(by rw[←HZ.out];exact hb1.size);have k0:w1.cell? (vA0 w.heap.size)=some (.bool false):=(hb1.cell (p:=(vA0 w.heap.size)) (by simp)).trans (by simp);have k1:w1.cell? (vAt w.heap.size 1)=some (vU6 0):=(hb1.cell (p:=(vAt w.heap.size 1)) (by simp)).trans (by simp);have k2:w1.cell? (vAt w.heap.size 2)=some (vU8 0):=(hb1.cell (p:=(vAt w.heap.size 2)) (by simp)).trans (by simp);have f0:=(World.frozen?_of_block (a:=(vA0 w.heap.size)) (hb1.block w.heap.size (by simp))).trans (frozen_new _ _ _ _);have f1:=(World.frozen?_of_block (a:=(vAt w.heap.size 1)) (hb1.block w.heap.size (by simp))).trans (frozen_new _ _ _ _);have f2:=(World.frozen?_of_block (a:=(vAt w.heap.size 2)) (hb1.block w.heap.size (by simp))).trans (frozen_new _ _ _ _);clear hb1)
 trace_state
 refine bodyPost_ret (v:= .tuple #[vI6 0,.agg #[.bool false,vU6 0,vU8 0],.bool false]) ?_ rfl ?_
 ·simp[results,Tryz.f158,go_sem,k0,k1,k2]
 ·refine⟨rfl,?_⟩
  first
   |exact HB.out
   |exact((HB.out.setCell (p:=(vA0 w.heap.size)) lzr _).setCell (p:=(vAt w.heap.size 1)) lzr _).setCell (p:=(vAt w.heap.size 2)) lzr _
   |exact(((HB.out.setCell (p:=(vA0 w.heap.size)) lzr _).setCell (p:=(vAt w.heap.size 1)) lzr _).setCell (p:=(vAt w.heap.size 2)) lzr _).drew
end
end Go.Proofs.YtnmhcgpnhlhcgaaGreatDoor
namespace Go.Proofs.YtnmhcgpnhlhcgaaGreatDoor
def lvs (R:List (Nat×Nat)) (lv:Nat):List En:=(R.filter (fun it=>it.2==lv)).map (fun it=>(it.1,Ke.fixK it.2))
def lev (R:List (Nat×Nat)):Nat→List En
 |0=>[]
 |k+1=>lvs R k++lev R k
def dl (L:List Ph.Item):List En:=L.map (fun x=>(x.1,Ke.deadK x.2.1))
def all (R:List (Nat×Nat)) (L:List Ph.Item):List En:=dl L++lev R 256
theorem mem_lvs {R:List (Nat×Nat)} {lv:Nat} {y:En}:y∈lvs R lv↔(y.1,lv)∈R∧y.2=Ke.fixK lv:=by
 unfold lvs
 simp only[List.mem_map,List.mem_filter,beq_iff_eq]
 grind
theorem mem_lev {R:List (Nat×Nat)} {y:En}: ∀{k:Nat},y∈lev R k↔ ∃lv,lv<k∧(y.1,lv)∈R∧y.2=Ke.fixK lv
 |0=>by simp[lev]
 |k+1=>by
  rw[lev,List.mem_append,mem_lvs,mem_lev]
  grind
theorem mem_dl {L:List Ph.Item} {y:En}:y∈dl L↔ ∃d s,(y.1,d,s)∈L∧y.2=Ke.deadK d:=by
 unfold dl
 grind
theorem mem_all {R:List (Nat×Nat)} {L:List Ph.Item} {y:En}:y∈all R L↔(∃d s,(y.1,d,s)∈L∧y.2=Ke.deadK d)∨ ∃lv,lv<256∧(y.1,lv)∈R∧y.2=Ke.fixK lv:=by
 grind[all,mem_dl,mem_lev]
theorem up_ff (l k:Int):Ke.up (Ke.fixK l) (Ke.fixK k)=decide (k<l):=by rfl
theorem up_dd (l k:Int):Ke.up (Ke.deadK l) (Ke.deadK k)=decide (l<k):=by rfl
theorem lvs_app (R:List (Nat×Nat)) (id lv k:Nat):lvs (R++[(id,lv)]) k=if lv=k then lvs R k++[(id,Ke.fixK lv)] else lvs R k:=by
 unfold lvs
 grind
theorem lev_low (R:List (Nat×Nat)) (id lv:Nat): ∀k,k≤lv→lev (R++[(id,lv)]) k=lev R k
 |0,_=>rfl
 |k+1,h=>by rw[lev,lev,lvs_app,if_neg (by omega),lev_low R id lv k (by omega)]
theorem put_lev (R:List (Nat×Nat)) (id lv:Nat): ∀k,lv<k→put (id,Ke.fixK lv) (lev R k)=lev (R++[(id,lv)]) k
 |0,h=>by omega
 |k+1,h=>by
  rw[lev,lev,lvs_app]
  have h1: ∀y∈lvs R k,Ke.up (Ke.fixK lv) y.2=false:=fun y hy=>by
   rw[(mem_lvs.1 hy).2,up_ff]
   grind
  rw[put_skip _ _ _ h1]
  by_cases e:lv=k
  ·subst e
   rw[if_pos rfl,lev_low R id lv lv lzr,put_here _ _ (fun y hy=> ?_)]
   ·simp
   ·obtain⟨j,hj,_,e⟩:=mem_lev.1 hy
    rw[e,up_ff]
    grind
  ·rw[if_neg e,put_lev R id lv k (by omega)]
theorem put_level (R:List (Nat×Nat)) (L:List Ph.Item) (id lv:Nat) (h:lv<256):put (id,Ke.fixK lv) (all R L)=all (R++[(id,lv)]) L:=by
 unfold all
 rw[put_skip _ _ _ (fun y hy=> ?_),put_lev R id lv 256 h]
 obtain⟨d,s,_,e⟩:=mem_dl.1 hy
 rw[e]
 rfl
theorem put_dl (id d s:Nat) (B:List En) (hB: ∀y∈B,Ke.up (Ke.deadK d) y.2=true): ∀(L:List Ph.Item),(∀y∈L,y.2.2<s)→put (id,Ke.deadK d) (dl L++B)=dl (Ph.ins (id,d,s) L)++B
 |[],_=>by
  show put (id,Ke.deadK d) B=(id,Ke.deadK d)::B
  exact put_here _ _ hB
 |x::L,h=>by
  have hx:=h x (by simp)
  show put (id,Ke.deadK d) ((x.1,Ke.deadK x.2.1)::(dl L++B))=_
  simp only[put,Ph.ins]
  rw[up_dd]
  by_cases c:d<x.2.1
  ·have c':Ph.ah (id,d,s) x:= .inl c
   rw[if_pos c',if_pos (by grind)]
   rfl
  ·have c': ¬Ph.ah (id,d,s) x:=by
    unfold Ph.ah
    grind
   rw[if_neg c',if_neg (by grind),put_dl id d s B hB L (by grind)]
   rfl
theorem put_dead (R:List (Nat×Nat)) (L:List Ph.Item) (id d s:Nat) (h: ∀y∈L,y.2.2<s):put (id,Ke.deadK d) (all R L)=all R (Ph.ins (id,d,s) L):=by
 unfold all
 refine put_dl id d s _ (fun y hy=> ?_) L h
 obtain⟨j,hj,_,e⟩:=mem_lev.1 hy
 rw[e]
 rfl
theorem cut_lvs (R:List (Nat×Nat)) (id lv:Nat):cut id (lvs R lv)=lvs (R.filter (fun it=>it.1 !=id)) lv:=by
 unfold cut lvs
 rw[List.filter_map,List.filter_filter,List.filter_filter]
 grind
theorem cut_lev (R:List (Nat×Nat)) (id:Nat): ∀k,cut id (lev R k)=lev (R.filter (fun it=>it.1 !=id)) k
 |0=>rfl
 |k+1=>by
  rw[lev,lev,←cut_lev R id k,←cut_lvs]
  exact List.filter_append ..
theorem cut_all (R:List (Nat×Nat)) (L:List Ph.Item) (id:Nat):cut id (all R L)=all (R.filter (fun it=>it.1 !=id)) (Ph.out id L):=by
 unfold all
 rw[←cut_lev]
 have e:dl (Ph.out id L)=cut id (dl L):=by
  unfold dl cut Ph.out
  rw[List.filter_map]
  rfl
 rw[e]
 exact List.filter_append ..
theorem filter_miss {R:List (Nat×Nat)} {id:Nat} (h: ∀it∈R,it.1≠id):R.filter (fun it=>it.1 !=id)=R:=by
 grind[List.filter_eq_self]
theorem filter_split {R1 R2:List (Nat×Nat)} {id lv:Nat} (h:((R1++(id,lv)::R2).map (·.1)).Nodup):(R1++(id,lv)::R2).filter (fun it=>it.1 !=id)=R1++R2:=by
 rw[List.map_append,List.map_cons,List.nodup_append] at h
 obtain⟨_,h2,h3⟩:=h
 rw[List.nodup_cons] at h2
 rw[List.filter_append,List.filter_cons_of_neg (by simp),filter_miss,filter_miss]
 ·grind
 ·intro it hit e
  exact h3 it.1 (by grind) id (by simp) e
theorem lev_first (R:List (Nat×Nat)) {y:En} {M:List En}: ∀k,lev R k=y::M→ ∃lv,lv<k∧(∃rest,lvs R lv=y::rest)∧ ∀j,lv<j→j<k→lvs R j=[]
 |0,h=>by simp[lev] at h
 |k+1,h=>by
  rw[lev] at h
  cases hl:lvs R k with
  |nil=>
   rw[hl] at h
   obtain⟨lv,h1,h2,h3⟩:=lev_first R k h
   grind
  |cons z rest=>
   grind
open Go.RowKit
attribute [local go_sem ↓] Go.wp_at_zero Go.wp_at_succ
structure InvS (n most turn:Nat) (R:List (Nat×Nat)) (L:List Ph.Item) (M:List En):Prop where
 eq:all R L=M
 nd:(M.map (·.1)).Nodup
 len:R.length+L.length=M.length
 lt: ∀y∈L,y.2.2<turn
 fits:M.length≤most
 mn:most≤n
 rl: ∀it∈R,it.2<256
def IsS (w:World) (sb qb gq hb gh n most turn:Nat) (M:List En):Prop:= ∃R L,St w sb qb gq hb gh n most turn R L∧InvS n most turn R L M
def OwnS (sb qb gq hb gh:Nat) (k:Nat):Prop:=k=sb∨Own qb gq hb gh k
section
variable {w w':World} {sb qb gq hb gh n most turn:Nat} {R R':List (Nat×Nat)} {L L':List Ph.Item} {M:List En}
theorem IsS.below (h:IsS w sb qb gq hb gh n most turn M) (hw:vBw w w'):IsS w' sb qb gq hb gh n most turn M:=by
 obtain⟨R,L,h1,h2⟩:=h
 exact⟨R,L,h1.below hw,h2⟩
theorem IsS.frame {S:Nat→Prop} (h:IsS w sb qb gq hb gh n most turn M) (hf:Fr S w w') (hn: ∀k,OwnS sb qb gq hb gh k→ ¬S k):IsS w' sb qb gq hb gh n most turn M:=by
 obtain⟨R,L,h1,h2⟩:=h
 exact⟨R,L,h1.frame hf (hn _ (.inl rfl)) (hn _ (.inr (.inl (.inl rfl)))) (hn _ (.inr (.inl (.inr rfl)))) (hn _ (.inr (.inr (.inl rfl)))) (hn _ (.inr (.inr (.inr rfl)))),h2⟩
theorem IsS.blocks (h:IsS w sb qb gq hb gh n most turn M): ∀k,OwnS sb qb gq hb gh k→k<w.heap.size:=by
 obtain⟨R,L,h1,_⟩:=h
 have a:=h1.lt
 have b:=h1.q.blocks
 have c:=h1.h.blocks
 grind[OwnS,Own]
theorem IsS.n_le (h:IsS w sb qb gq hb gh n most turn M):n≤1024:=by
 obtain⟨R,L,h1,_⟩:=h
 exact h1.h.nle
theorem InvS.memR (h:InvS n most turn R L M) {id lv:Nat} (hm:(id,lv)∈R):(id,Ke.fixK lv)∈M:=by
 rw[←h.eq]
 exact mem_all.2 (.inr ⟨lv,h.rl _ hm,hm,rfl⟩)
theorem InvS.memL (h:InvS n most turn R L M) {x:Ph.Item} (hm:x∈L):(x.1,Ke.deadK x.2.1)∈M:=by
 rw[←h.eq]
 exact mem_all.2 mK
theorem InvS.missR (h:InvS n most turn R L M) {id:Nat} (hm: ∀y∈M,y.1≠id): ∀it∈R,it.1≠id:=fun it hit e=>hm _ (h.memR (id:=it.1) (lv:=it.2) hit) e
theorem InvS.missL (h:InvS n most turn R L M) {id:Nat} (hm: ∀y∈M,y.1≠id): ∀it∈L,it.1≠id:=fun it hit e=>hm _ (h.memL hit) e
theorem InvS.apart (h:InvS n most turn R L M) {x:Ph.Item} (hm:x∈L): ∀it∈R,it.1≠x.1:=fun it hit e=>by
 have:=nd_uniq h.nd (h.memR (id:=it.1) (lv:=it.2) hit) (h.memL hm) e
 have:=congrArg (fun y=>y.2.e) this
 grind[Ke.fixK,Ke.deadK]
def kz (o:Option Ke.K):Ke.K:=o.getD ⟨false,0,0⟩
theorem pkey_ok (hS:St w sb qb gq hb gh n most turn R L) (hI:InvS n most turn R L M) (id:Nat) (hi:id<n):
  vQ 174 #[.agg #[vPt qb,vPt hb],vI6 (id:Int)] w (.tuple #[.agg (vKy (kz (keyOf M id))),.bool (keyOf M id).isSome]):=by
 cases hk:keyOf M id with
 |none=>
  have hm:=keyOf_none.1 hk
  exact pkey_none hS id hi (hI.missR hm) (hI.missL hm)
 |some k=>
  have hm:=(keyOf_some hI.nd).1 hk
  rw[←hI.eq] at hm
  rcases mem_all.1 hm with ⟨d,s,h1,h2⟩|⟨lv,_,h1,h2⟩
  ·have:=pkey_dead hS id hi (hI.apart h1) d s h1
   simp only at h2
   rw[h2]
   exact this
  ·obtain⟨R1,R2,rfl⟩:=List.append_of_mem h1
   simp only at h2
   rw[h2]
   exact pkey_level hS
theorem first_of (hS:St w sb qb gq hb gh n most turn R L) (hI:InvS n most turn R L M) {y:En} {M':List En} (he:M=y::M'):
  vQ 186 #[.agg #[vPt qb,vPt hb]] w (.tuple #[vI6 (y.1:Int),.bool true]):=by
 have heq:=hI.eq
 rw[he] at heq
 cases L with
 |cons x L=>
  grind[all,dl,pfirst_heap]
 |nil=>
  have h1:lev R 256=y::M':=heq
  obtain⟨lv,h2,⟨rest,h3⟩,h4⟩:=lev_first R 256 h1
  have e1:Bq.QL R lv=(lvs R lv).map (fun y=>y.1+1):=by
   unfold Bq.QL lvs
   simp
  have e2: ∀j,lvs R j=[]→Bq.QL R j=[]:=fun j hj=>by
   have:Bq.QL R j=(lvs R j).map (fun y=>y.1+1):=by
    unfold Bq.QL lvs
    simp
   grind
  rw[h3] at e1
  exact pfirst_queue hS ⟨h2,by grind,fun j a b=>e2 j (h4 j b a)⟩ e1
theorem head_key {y:En} {M':List En} (h:((y::M').map (·.1)).Nodup):keyOf (y::M') y.1=some y.2:=(keyOf_some h).2 (by simp)
theorem InvS.rng (hS:St w sb qb gq hb gh n most turn R L) (hI:InvS n most turn R L M): ∀y∈M,y.1<n:=fun y hy=>by
 rw[←hI.eq] at hy
 rcases mem_all.1 hy with ⟨d,s,h1,_⟩|⟨lv,_,h1,_⟩
 ·exact hS.h.good.rng _ h1
 ·exact(hS.q.rng _ h1).1
theorem top_of (hS:St w sb qb gq hb gh n most turn R L) (hI:InvS n most turn R L M) {y:En} {M':List En} (he:M=y::M'):
  vQ 158 #[vPt sb] w (.tuple #[vI6 (y.1:Int),.agg (vKy y.2),.bool true]):=by
 refine stop_any hS y.1 y.2 (fun W hW=>first_of hW hI he) (fun W hW=> ?_)
 have:=pkey_ok hW hI y.1 (InvS.rng hW hI y (by grind))
 have e:keyOf M y.1=some y.2:=by grind[head_key,InvS.nd]
 rw[e] at this
 exact this
theorem rem_of (hS:St w sb qb gq hb gh n most turn R L) (hI:InvS n most turn R L M) {id:Nat} {k:Ke.K} (hk:(id,k)∈M):
  ∃R' L',InvS n most turn R' L' (cut id M)∧ ∀W,St W sb qb gq hb gh n most turn R L→vCa 175 #[vPt sb,vI6 (id:Int)] W fun e w'=>e= .returned (vI6 0)∧St w' sb qb gq hb gh n most turn R' L'∧Fr (Own qb gq hb gh) W w':=by
 have hlc:=len_cut hI.nd hk
 have hlen:=hI.len
 have hmo:=hI.fits
 have hm:=hk
 rw[←hI.eq] at hm
 rcases mem_all.1 hm with ⟨d,s,h1,h2⟩|⟨lv,_,h1,h2⟩
 ·have hap:=hI.apart h1
  have hlo:=Ph.len_out hS.h.good h1
  refine⟨R,Ph.out id L,⟨?_,nd_cut hI.nd,by grind,fun y hy=>hI.lt y (Ph.mem_out.1 hy).1,by omega,hI.mn,hI.rl⟩,fun W hW=> ?_⟩
  ·rw[←hI.eq,cut_all,filter_miss hap]
  ·refine(sremove_heap hW id d s hap h1).mono ?_
   rintro e w' ⟨rfl,a,b⟩
   exact⟨rfl,a,b.wide (fun k _ q=> .inr q)⟩
 ·obtain⟨R1,R2,rfl⟩:=List.append_of_mem h1
  have hmiss: ∀y∈L,y.1≠id:=fun y hy e=>hI.apart hy (id,lv) (by simp) e.symm
  refine⟨R1++R2,L,⟨?_,nd_cut hI.nd,?_,hI.lt,by omega,hI.mn,fun it hit=>hI.rl it ?_⟩,fun W hW=> ?_⟩
  ·rw[←hI.eq,cut_all,filter_split hS.q.ids,Ph.out_miss hmiss]
  ·grind
  ·grind
  ·refine(sremove_queue hW).mono ?_
   rintro e w' ⟨rfl,a,b⟩
   exact⟨rfl,a,b.wide (fun k _ q=> .inl q)⟩
theorem remove_ok (h:IsS w sb qb gq hb gh n most turn M) {id:Nat} {k:Ke.K} (hk:(id,k)∈M):
  vCa 175 #[vPt sb,vI6 (id:Int)] w fun e w'=>e= .returned (vI6 0)∧IsS w' sb qb gq hb gh n most turn (cut id M)∧Fr (Own qb gq hb gh) w w':=by
 obtain⟨R,L,hS,hI⟩:=h
 obtain⟨R',L',h1,h2⟩:=rem_of hS hI hk
 refine(h2 _ hS).mono ?_
 rintro e w' ⟨rfl,a,b⟩
 exact⟨rfl,⟨R',L',a,h1⟩,b⟩
theorem IsS.nil_parts (h:IsS w sb qb gq hb gh n most turn []):St w sb qb gq hb gh n most turn [] []:=by
 obtain⟨R,L,hS,hI⟩:=h
 have:=hI.len
 simp at this
 obtain⟨rfl,rfl⟩:=this
 exact hS
theorem top_ok {y:En} (h:IsS w sb qb gq hb gh n most turn (y::M)):
  vQ 158 #[vPt sb] w (.tuple #[vI6 (y.1:Int),.agg (vKy y.2),.bool true]):=by
 obtain⟨R,L,hS,hI⟩:=h
 exact top_of hS hI rfl
theorem right_cases {k:Ke.K} (hr:Ke.rightK k=true) (hk:k.ok):(∃d:Nat,k=Ke.deadK d)∨ ∃lv:Nat,lv<256∧k=Ke.fixK lv:=by
 obtain⟨e,d,l⟩:=k
 obtain⟨⟨h1,h2⟩,h3,h4⟩:=hk
 simp only at h1 h2 h3 h4
 cases e
 ·right
  simp[Ke.rightK] at hr
  refine⟨l.toNat,by omega,?_⟩
  simp[Ke.fixK,hr]
  omega
 ·left
  simp[Ke.rightK] at hr
  refine⟨d.toNat,?_⟩
  simp[Ke.deadK,hr]
  omega
theorem put_new (h:IsS w sb qb gq hb gh n most turn M) (ht:turn≤1000000000) (id:Nat) (k:Ke.K) (hi:id<n) (hr:Ke.rightK k=true) (hk:k.ok) (hno:keyOf M id=none) (hlen:M.length<most):
  vCa 148 #[vPt sb,vI6 (id:Int),.agg (vKy k)] w fun e w'=>e= .returned (vI6 0)∧IsS w' sb qb gq hb gh n most (turn+1) (put (id,k) M)∧Fr (OwnS sb qb gq hb gh) w w':=by
 have hn:=h.n_le
 obtain⟨R,L,hS,hI⟩:=h
 have hm:=keyOf_none.1 hno
 have hl:=hI.len
 have hmn:=hI.mn
 have e1:=len_put (x:=(id,k)) (M:=M)
 rcases right_cases hr hk with ⟨d,rfl⟩|⟨lv,hlv,rfl⟩
 ·refine(sPut_dead hS ht id d hi (hI.missR hm) (hI.missL hm) (by omega) (by omega)).mono ?_
  rintro e w' ⟨rfl,a,b⟩
  refine⟨rfl,⟨R,_,a,?_,nd_put hI.nd hm,by rw[Ph.len_ins];omega,fun y hy=> ?_,by omega,hI.mn,hI.rl⟩,b.wide (fun k _ q=> ?_)⟩
  ·rw[←hI.eq,put_dead R L id d turn hI.lt]
  ·rcases Ph.mem_ins.1 hy with rfl|q
   ·simp
   ·exact Nat.lt_succ_of_lt (hI.lt y q)
  ·unfold OwnS Own;omega
 ·refine(sPut_level hS ht id lv hi hlv (hI.missR hm) (hI.missL hm) (by omega) (by omega)).mono ?_
  rintro e w' ⟨rfl,a,b⟩
  refine⟨rfl,⟨_,L,a,?_,nd_put hI.nd hm,by grind,fun y hy=>Nat.lt_succ_of_lt (hI.lt y hy),by omega,hI.mn,fun it hit=> ?_⟩,b.wide (fun k _ q=> ?_)⟩
  ·rw[←hI.eq,put_level R L id lv hlv]
  ·rcases List.mem_append.1 hit with q|q
   ·exact hI.rl it q
   grind
  ·unfold OwnS Own;omega
theorem new_isS (n most:Nat) (w:World) (h1:1≤n) (h2:n≤1024) (h3:1≤most) (h4:most≤n):
  vCa 69 #[vI6 n,vI6 most] w fun e w'=> ∃sb qb gq hb gh,e= .returned (vPt sb)∧(∀k,OwnS sb qb gq hb gh k→w.heap.size≤k)∧IsS w' sb qb gq hb gh n most 0 []∧vBw w w':=by
 refine(snew_ok n most w h1 h2 h3 h4).mono ?_
 rintro e w' ⟨sb,qb,gq,hb,gh,rfl,a,b,c,d,f,hS,hB⟩
 refine⟨sb,qb,gq,hb,gh,rfl,fun k hk=> ?_,⟨[],[],hS,by rfl,by simp,rfl,by simp,by simp,h4,by simp⟩,hB⟩
 unfold OwnS Own at hk
 omega
end
section
variable {w:World} {sb qb gq hb gh n most turn:Nat} {R:List (Nat×Nat)} {L:List Ph.Item} {M:List En}
theorem id_S (h:IsS w sb qb gq hb gh n most turn M): ∃R L,St w sb qb gq hb gh n most turn R L∧InvS n most turn R L M:=h
theorem pkeyN (h:IsS w sb qb gq hb gh n most turn M) (id:Nat) (hi:id<n):
  vQ 174 #[.agg #[vPt qb,vPt hb],vI6 (id:Int)] w (.tuple #[.agg (vKy (kz (keyOf M id))),.bool (keyOf M id).isSome]):=by
 obtain⟨R,L,hS,hI⟩:=h
 exact pkey_ok hS hI id hi
theorem slenS (h:IsS w sb qb gq hb gh n most turn M):
  vQ 159 #[vPt sb] w (vI6 (M.length:Int)):=by
 have hn:=h.n_le
 obtain⟨R,L,hS,hI⟩:=h
 have h1:=hI.len
 have h2:=hI.fits
 have h3:=hI.mn
 grind[slen_ok]
theorem smay_no (h:IsS w sb qb gq hb gh n most turn M) (id:Int) (k:Ke.K) (hb:id<0∨(n:Int)≤id∨Ke.rightK k=false):
  vQ 173 #[vPt sb,vI6 id,.agg (vKy k)] w (vI6 2):=by
 obtain⟨R,L,hS,_⟩:=h
 have c2:=(hS.below (bzR.alloc lzr (.cells (vKy k) 120))).c2
 have HA:Hid (vBw w (w.alloc (.cells (vKy k) 120))):=bzA
 have hlt:=hS.lt
 have y0: ¬sb=w.heap.size:=by omega
 have c20:=hS.c2
 have HR:=veil (fun W=>Ke.right_ok W k)
 clear hS
 have hcs:id<0∨(¬id<0∧(n:Int)≤id)∨(¬id<0∧ ¬(n:Int)≤id∧Ke.rightK k=false):=by
  grind
 clear hb
 rcases hcs with h1|⟨h1,h2⟩|⟨h1,h2,h3⟩
 ·refine ge ?_
  go_wp2
  go_ret
  exact⟨rfl,HA.out⟩
 ·refine ge ?_
  go_wp2
  go_ret
  exact⟨rfl,HA.out⟩
 ·rw[h3] at HR
  refine ge ?_
  go_wp2_with (go_at_call 129;refine(HR.out _).mono ?_;rintro e w1 ⟨rfl,hb1⟩;have HB1:=veil (HA.out.trans (hb1.mono HA.out.size));clear hb1)
  go_ret
  exact⟨rfl,HB1.out⟩
theorem boxS (h:IsS w sb qb gq hb gh n most turn M) (k:Ke.K): ∀W,Below (w.heap.size+1) (w.alloc (.cells (vKy k) 120)) W→IsS W sb qb gq hb gh n most turn M∧(W.cell? (vA0 w.heap.size)=some (.bool k.e)∧W.cell? (vAt w.heap.size 1)=some (vU6 k.d)∧W.cell? (vAt w.heap.size 2)=some (vU8 k.l))∧(∀o,W.frozen? (vAt w.heap.size o)=false)∧w.heap.size+1≤W.heap.size∧vBw w W:=fun W hW=>by
 have hA:=(Below.refl w.heap.size w).alloc lzr (.cells (vKy k) 120)
 have hz:(w.alloc (.cells (vKy k) 120)).heap.size=w.heap.size+1:=by simp
 refine⟨(h.below hA).below (by rw[←hz] at hW;exact hW),⟨?_,?_,?_⟩,fun o=> ?_,by rw[←hz];exact hW.size,hA.trans (hW.mono (by omega))⟩
 ·rw[hW.cell (p:=(vA0 w.heap.size)) (by simp),cell_new];rfl
 ·rw[hW.cell (p:=(vAt w.heap.size 1)) (by simp),cell_new];rfl
 ·rw[hW.cell (p:=(vAt w.heap.size 2)) (by simp),cell_new];rfl
 ·rw[World.frozen?_of_block (a:=(vAt w.heap.size o)) (hW.block w.heap.size (by omega))]
  simp
theorem smay_yes (h:IsS w sb qb gq hb gh n most turn M) (id:Nat) (hi:id<n) (k:Ke.K) (hk:Ke.rightK k=true):
  vQ 173 #[vPt sb,vI6 (id:Int),.agg (vKy k)] w (vI6 0):=by
 obtain⟨R,L,hS,_⟩:=h
 exact smay_ok hS id hi k hk
theorem sPut_no (h:IsS w sb qb gq hb gh n most turn M) (id:Int) (k:Ke.K) (hb:id<0∨(n:Int)≤id∨Ke.rightK k=false):
  vQ 148 #[vPt sb,vI6 id,.agg (vKy k)] w (vI6 2):=by
 have HX:=veil (boxS h k)
 have HMay:=veil (smay_no (boxS h k _ bzR).1 id k hb)
 clear h hb
 refine ge ?_
 go_wp2_with (go_at_call 173;refine(HMay.out).mono ?_;rintro e w1 ⟨rfl,hb1⟩;have HB1:=veil (show Below (w.heap.size+1) _ w1 by simpa [vBw] using hb1);obtain⟨hs1,⟨k10,k11,k12⟩,_,hz1,hbw1⟩:=HX.out _ HB1.out;have HS1:=veil hs1;have HBW1:=veil hbw1;obtain⟨R1,L1,hst1,_⟩:=id_S hs1;have c10:=hst1.c0;have c11:=hst1.c1;clear hb1 hs1 hst1 hbw1)
 go_ret
 exact⟨rfl,HBW1.out⟩
theorem sPut_known (h:IsS w sb qb gq hb gh n most turn M) (id:Nat) (hi:id<n) (k:Ke.K) (hr:Ke.rightK k=true) (k':Ke.K) (hko:keyOf M id=some k'):
  vQ 148 #[vPt sb,vI6 (id:Int),.agg (vKy k)] w (vI6 5):=by
 have HX:=veil (boxS h k)
 have HMay:=veil (smay_yes (boxS h k _ bzR).1 id hi k hr)
 have HKO:=veil hko
 clear h hko
 refine ge ?_
 go_wp2_with (first|(go_at_call 173;refine(HMay.out).mono ?_;rintro e w1 ⟨rfl,hb1⟩;have HB1:=veil (show Below (w.heap.size+1) _ w1 by simpa [vBw] using hb1);obtain⟨hs1,⟨k10,k11,k12⟩,_,hz1,hbw1⟩:=HX.out _ HB1.out;have HS1:=veil hs1;have HBW1:=veil hbw1;obtain⟨R1,L1,hst1,_⟩:=id_S hs1;have c10:=hst1.c0;have c11:=hst1.c1;clear hb1 hs1 hst1 hbw1)|(go_at_call 174;refine(pkeyN HS1.out id hi).mono ?_;rw[HKO.out];rintro e w2 ⟨rfl,hb2⟩;have HB2:=veil (HB1.out.trans (hb2.mono hz1));obtain⟨hs2,⟨k20,k21,k22⟩,_,hz2,hbw2⟩:=HX.out _ HB2.out;have HS2:=veil hs2;have HBW2:=veil hbw2;obtain⟨R2,L2,hst2,_⟩:=id_S hs2;have c23:=hst2.c3;clear hb2 hs2 hst2 hbw2))
 go_ret
 exact⟨rfl,HBW2.out.alloc HBW2.out.size _⟩
theorem sPut_full (h:IsS w sb qb gq hb gh n most turn M) (id:Nat) (hi:id<n) (k:Ke.K) (hr:Ke.rightK k=true) (hko:keyOf M id=none) (hf:M.length=most):
  vQ 148 #[vPt sb,vI6 (id:Int),.agg (vKy k)] w (vI6 4):=by
 have HX:=veil (boxS h k)
 have HMay:=veil (smay_yes (boxS h k _ bzR).1 id hi k hr)
 have HKO:=veil hko
 have hm1:=h.n_le
 clear h hko
 refine ge ?_
 go_wp2_with (first|(go_at_call 173;refine(HMay.out).mono ?_;rintro e w1 ⟨rfl,hb1⟩;have HB1:=veil (show Below (w.heap.size+1) _ w1 by simpa [vBw] using hb1);obtain⟨hs1,⟨k10,k11,k12⟩,_,hz1,hbw1⟩:=HX.out _ HB1.out;have HS1:=veil hs1;have HBW1:=veil hbw1;obtain⟨R1,L1,hst1,_⟩:=id_S hs1;have c10:=hst1.c0;have c11:=hst1.c1;clear hb1 hs1 hst1 hbw1)|(go_at_call 174;refine(pkeyN HS1.out id hi).mono ?_;rw[HKO.out];rintro e w2 ⟨rfl,hb2⟩;have HB2:=veil (HB1.out.trans (hb2.mono hz1));obtain⟨hs2,⟨k20,k21,k22⟩,_,hz2,hbw2⟩:=HX.out _ HB2.out;have HS2:=veil hs2;have HBW2:=veil hbw2;obtain⟨R2,L2,hst2,_⟩:=id_S hs2;have c23:=hst2.c3;clear hb2 hs2 hst2 hbw2))
 have HW3:=veil (show Below (w.heap.size+1) (w.alloc (.cells (vKy k) 120)) ((w2.alloc (.cells #[.bool false,vU6 0,vU8 0] 120)).drew) from(HB2.out.alloc hz2 _).drew)
 obtain⟨hs3,_,_,hz3,hbw3⟩:=HX.out _ HW3.out
 have HLn:=veil (slenS hs3)
 rw[hf] at HLn
 obtain⟨R3,L3,hst3,_⟩:=id_S hs3
 have c33:=hst3.c3
 clear hs3 hst3 hbw3 k10 k11 k12 k20 k21 k22 c10 c11 c23 hf
 go_region_held3 (fun w'=>w'.cell? (vAt sb 3)=some (vI6 (most:Int)))
  (first|exact c43|exact c33|go_keep)
  (first|(go_at_call 159;refine(HLn.out).mono ?_;rintro e w3 ⟨rfl,hb3⟩;have HB3:=veil (HW3.out.trans (hb3.mono (by omega)));obtain⟨hs4,_,_,hz4,hbw4⟩:=HX.out _ HB3.out;have HBW4:=veil hbw4;obtain⟨R4,L4,hst4,_⟩:=id_S hs4;have c43:=hst4.c3;clear hb3 hs4 hst4 hbw4))
 go_wp2
 go_ret
 exact⟨rfl,HBW4.out⟩
theorem sputS (h:IsS w sb qb gq hb gh n most turn M) (ht:turn≤1000000000) (id:Nat) (k:Ke.K) (hi:id<n) (hr:Ke.rightK k=true) (hk:k.ok) (hno:keyOf M id=none) (hlen:M.length<most):
  vCa 176 #[vPt sb,vI6 (id:Int),.agg (vKy k)] w fun e w'=>e=vRt #[]∧IsS w' sb qb gq hb gh n most (turn+1) (put (id,k) M)∧Fr (OwnS sb qb gq hb gh) w w':=by
 have hn:=h.n_le
 obtain⟨R,L,hS,hI⟩:=h
 have hm:=keyOf_none.1 hno
 have hl:=hI.len
 have hmn:=hI.mn
 have e1:=len_put (x:=(id,k)) (M:=M)
 rcases right_cases hr hk with ⟨d,rfl⟩|⟨lv,hlv,rfl⟩
 ·refine(sput_dead hS ht id d hi (hI.missL hm)).mono ?_
  rintro e w' ⟨rfl,a,b⟩
  refine⟨rfl,⟨R,_,a,?_,nd_put hI.nd hm,by rw[Ph.len_ins];omega,fun y hy=> ?_,by omega,hI.mn,hI.rl⟩,b.wide (fun k _ q=> ?_)⟩
  ·rw[←hI.eq,put_dead R L id d turn hI.lt]
  ·rcases Ph.mem_ins.1 hy with rfl|q
   ·simp
   ·exact Nat.lt_succ_of_lt (hI.lt y q)
  ·unfold OwnS Own;omega
 ·refine(sput_level hS ht id lv hi hlv (hI.missR hm)).mono ?_
  rintro e w' ⟨rfl,a,b⟩
  refine⟨rfl,⟨_,L,a,?_,nd_put hI.nd hm,by grind,fun y hy=>Nat.lt_succ_of_lt (hI.lt y hy),by omega,hI.mn,fun it hit=> ?_⟩,b.wide (fun k _ q=> ?_)⟩
  ·rw[←hI.eq,put_level R L id lv hlv]
  ·rcases List.mem_append.1 hit with q|q
   ·exact hI.rl it q
   grind
  ·unfold OwnS Own;omega
theorem sChange_no (h:IsS w sb qb gq hb gh n most turn M) (id:Int) (k:Ke.K) (hb:id<0∨(n:Int)≤id∨Ke.rightK k=false):
  vQ 135 #[vPt sb,vI6 id,.agg (vKy k)] w (vI6 2):=by
 have HX:=veil (boxS h k)
 have HMay:=veil (smay_no (boxS h k _ bzR).1 id k hb)
 clear h hb
 refine ge ?_
 go_wp2_with (go_at_call 173;refine(HMay.out).mono ?_;rintro e w1 ⟨rfl,hb1⟩;have HB1:=veil (show Below (w.heap.size+1) _ w1 by simpa [vBw] using hb1);obtain⟨hs1,⟨k10,k11,k12⟩,_,hz1,hbw1⟩:=HX.out _ HB1.out;have HS1:=veil hs1;have HBW1:=veil hbw1;obtain⟨R1,L1,hst1,_⟩:=id_S hs1;have c10:=hst1.c0;have c11:=hst1.c1;clear hb1 hs1 hst1 hbw1)
 go_ret
 exact⟨rfl,HBW1.out⟩
theorem sChange_none (h:IsS w sb qb gq hb gh n most turn M) (id:Nat) (hi:id<n) (k:Ke.K) (hr:Ke.rightK k=true) (hko:keyOf M id=none):
  vQ 135 #[vPt sb,vI6 (id:Int),.agg (vKy k)] w (vI6 6):=by
 have HX:=veil (boxS h k)
 have HMay:=veil (smay_yes (boxS h k _ bzR).1 id hi k hr)
 have HKEY:Hid (∀W,IsS W sb qb gq hb gh n most turn M→vQ 174 #[.agg #[vPt qb,vPt hb],vI6 (id:Int)] W (.tuple #[.agg #[.bool false,vU6 0,vU8 0],.bool false])):=fun W hW=>by
  have:=pkeyN hW id hi
  rw[hko] at this
  exact this
 have HRM:=veil fun W (hW:IsS W sb qb gq hb gh n most turn M)=>by
  obtain⟨R,L,hS,hI⟩:=hW
  have hm:=keyOf_none.1 hko
  exact sremove_none hS id hi (hI.missR hm) (hI.missL hm)
 clear h hko
 refine ge ?_
 go_wp2_with (first|(go_at_call 173;refine(HMay.out).mono ?_;rintro e w1 ⟨rfl,hb1⟩;have HB1:=veil (show Below (w.heap.size+1) _ w1 by simpa [vBw] using hb1);obtain⟨hs1,⟨k10,k11,k12⟩,_,hz1,hbw1⟩:=HX.out _ HB1.out;have HS1:=veil hs1;have HBW1:=veil hbw1;obtain⟨R1,L1,hst1,_⟩:=id_S hs1;have c10:=hst1.c0;have c11:=hst1.c1;clear hb1 hs1 hst1 hbw1)|(go_at_call 174;refine(HKEY.out _ HS1.out).mono ?_;rintro e w2 ⟨rfl,hb2⟩;have HB2:=veil (HB1.out.trans (hb2.mono hz1));have hz2:=(HX.out _ HB2.out).2.2.2.1;have HB3:=veil (HB2.out.alloc hz2 (.cells #[.bool false,vU6 0,vU8 0] 120));obtain⟨hs3,⟨k30,k31,k32⟩,_,hz3,hbw3⟩:=HX.out _ HB3.out;have HS3:=veil hs3;have HBW3:=veil hbw3;have y0: ¬w.heap.size=w2.heap.size:=(by omega);have y1: ¬w2.heap.size=w.heap.size:=(by omega);obtain⟨_,⟨k20,k21,k22⟩,_,_,_⟩:=HX.out _ HB2.out;clear hb2 hs3 hbw3)|(go_at_call 175;refine cS (HRM.out _ HS3.out) ?_))
 go_ret
 exact⟨rfl,HBW3.out⟩
theorem sChange_same (h:IsS w sb qb gq hb gh n most turn M) (id:Nat) (hi:id<n) (k:Ke.K) (hr:Ke.rightK k=true) (hko:keyOf M id=some k):
  vQ 135 #[vPt sb,vI6 (id:Int),.agg (vKy k)] w (vI6 0):=by
 have HX:=veil (boxS h k)
 have HMay:=veil (smay_yes (boxS h k _ bzR).1 id hi k hr)
 have HKEY:Hid (∀W,IsS W sb qb gq hb gh n most turn M→vQ 174 #[.agg #[vPt qb,vPt hb],vI6 (id:Int)] W (.tuple #[.agg (vKy k),.bool true])):=fun W hW=>by
  have:=pkeyN hW id hi
  rw[hko] at this
  exact this
 have hsm:Ke.same k k=true:=by rw[Ke.same_eq];simp
 clear h hko
 refine ge ?_
 go_wp2_with (first|(go_at_call 173;refine(HMay.out).mono ?_;rintro e w1 ⟨rfl,hb1⟩;have HB1:=veil (show Below (w.heap.size+1) _ w1 by simpa [vBw] using hb1);obtain⟨hs1,⟨k10,k11,k12⟩,_,hz1,hbw1⟩:=HX.out _ HB1.out;have HS1:=veil hs1;have HBW1:=veil hbw1;obtain⟨R1,L1,hst1,_⟩:=id_S hs1;have c10:=hst1.c0;have c11:=hst1.c1;clear hb1 hs1 hst1 hbw1)|(go_at_call 174;refine(HKEY.out _ HS1.out).mono ?_;rintro e w2 ⟨rfl,hb2⟩;have HB2:=veil (HB1.out.trans (hb2.mono hz1));have hz2:=(HX.out _ HB2.out).2.2.2.1;have HB3:=veil (HB2.out.alloc hz2 (.cells (vKy k) 120));obtain⟨hs3,⟨k30,k31,k32⟩,_,hz3,hbw3⟩:=HX.out _ HB3.out;have HS3:=veil hs3;have HBW3:=veil hbw3;have y0: ¬w.heap.size=w2.heap.size:=(by omega);have y1: ¬w2.heap.size=w.heap.size:=(by omega);obtain⟨_,⟨k20,k21,k22⟩,_,_,_⟩:=HX.out _ HB2.out;clear hb2 hs3 hbw3))
 go_ret
 exact⟨rfl,HBW3.out⟩
theorem sChange_other (h:IsS w sb qb gq hb gh n most turn M) (ht:turn≤1000000000) (id:Nat) (hi:id<n) (k:Ke.K) (hr:Ke.rightK k=true) (hk:k.ok) (k':Ke.K) (hko:keyOf M id=some k') (hne:k'≠k):
  vCa 135 #[vPt sb,vI6 (id:Int),.agg (vKy k)] w fun e w'=>e= .returned (vI6 0)∧IsS w' sb qb gq hb gh n most (turn+1) (put (id,k) (cut id M))∧Fr (OwnS sb qb gq hb gh) w w':=by
 have HX:=veil (boxS h k)
 have HMay:=veil (smay_yes (boxS h k _ bzR).1 id hi k hr)
 have HKEY:Hid (∀W,IsS W sb qb gq hb gh n most turn M→vQ 174 #[.agg #[vPt qb,vPt hb],vI6 (id:Int)] W (.tuple #[.agg (vKy k'),.bool true])):=fun W hW=>by
  have:=pkeyN hW id hi
  rw[hko] at this
  exact this
 have hsm:Ke.same k' k=false:=by rw[Ke.same_eq];grind
 obtain⟨R,L,hS,hI⟩:=id_S h
 have hmem:=(keyOf_some hI.nd).1 hko
 have HMEM:=veil hmem
 have hcl:=len_cut hI.nd hmem
 have hfit:=hI.fits
 have HNC:Hid (keyOf (cut id M) id=none):=keyOf_none.2 (fun y hy=>(mem_cut.1 hy).2)
 have HLC:Hid ((cut id M).length<most):=by unfold Hid;omega
 have hnb: ¬Own qb gq hb gh w.heap.size:=by have:=h.blocks w.heap.size;intro q;exact absurd (this (.inr q)) (by omega)
 have HNB:=veil hnb
 clear h hko hS hI hmem hcl hfit hne hnb
 refine ge ?_
 go_wp2_with (first
  |(go_at_call 173;refine(HMay.out).mono ?_;rintro e w1 ⟨rfl,hb1⟩;have HB1:=veil (show Below (w.heap.size+1) _ w1 by simpa [vBw] using hb1);obtain⟨hs1,⟨k10,k11,k12⟩,_,hz1,hbw1⟩:=HX.out _ HB1.out;have HS1:=veil hs1;have HBW1:=veil hbw1;obtain⟨R1,L1,hst1,_⟩:=id_S hs1;have c10:=hst1.c0;have c11:=hst1.c1;clear hb1 hs1 hst1 hbw1)
  |(go_at_call 174;refine(HKEY.out _ HS1.out).mono ?_;rintro e w2 ⟨rfl,hb2⟩;have HB2:=veil (HB1.out.trans (hb2.mono hz1));have hz2:=(HX.out _ HB2.out).2.2.2.1;have HB3:=veil (HB2.out.alloc hz2 (.cells (vKy k') 120));obtain⟨hs3,⟨k30,k31,k32⟩,_,hz3,hbw3⟩:=HX.out _ HB3.out;have HS3:=veil hs3;have HBW3:=veil hbw3;have y0: ¬w.heap.size=w2.heap.size:=(by omega);have y1: ¬w2.heap.size=w.heap.size:=(by omega);obtain⟨_,⟨k20,k21,k22⟩,_,_,_⟩:=HX.out _ HB2.out;clear hb2 hs3 hbw3)
  |(go_at_call 175;refine(remove_ok HS3.out HMEM.out).mono ?_;rintro e w4 ⟨rfl,hs4,hf4⟩;have HS4:=veil hs4;have HF4:=veil hf4;have m0:=(hf4.cell (a:=(vA0 w.heap.size)) hz3 HNB.out).trans k30;have m1:=(hf4.cell (a:=(vAt w.heap.size 1)) hz3 HNB.out).trans k31;have m2:=(hf4.cell (a:=(vAt w.heap.size 2)) hz3 HNB.out).trans k32;clear hs4 hf4)
  |(go_at_call 176;refine(sputS HS4.out ht id k hi hr hk HNC.out HLC.out).mono ?_;rintro e w5 ⟨rfl,hs5,hf5⟩;have HS5:=veil hs5;have HF5:=veil (((Fr.of_below' HBW3.out).trans (HF4.out.wide (fun q _ z=>(.inr z:OwnS sb qb gq hb gh q)))).trans hf5);clear hs5 hf5))
 go_ret
 exact⟨rfl,HS5.out,HF5.out⟩
end
end Go.Proofs.YtnmhcgpnhlhcgaaGreatDoor
namespace Go.Proofs.YtnmhcgpnhlhcgaaGreatDoor
open Go.RowKit
def Bad (n:Nat) (id:Int) (k:Ke.K):Prop:=id<0∨(n:Int)≤id∨Ke.rightK k=false
instance (n:Nat) (id:Int) (k:Ke.K):Decidable (Bad n id k):=inferInstanceAs (Decidable (_∨_∨_))
def putC (n most:Nat) (M:List En) (id:Int) (k:Ke.K):Int:=if Bad n id k then 2 else if (keyOf M id.toNat).isSome then 5 else if M.length=most then 4 else 0
def putL (n most:Nat) (M:List En) (id:Int) (k:Ke.K):List En:=if putC n most M id k=0 then put (id.toNat,k) M else M
def chgC (n:Nat) (M:List En) (id:Int) (k:Ke.K):Int:=if Bad n id k then 2 else if (keyOf M id.toNat).isSome then 0 else 6
def chgL (n:Nat) (M:List En) (id:Int) (k:Ke.K):List En:=if chgC n M id k=0 then(if keyOf M id.toNat=some k then M else put (id.toNat,k) (cut id.toNat M)) else M
def remC (n:Nat) (M:List En) (id:Int):Int:=if id<0∨(n:Int)≤id then 2 else if (keyOf M id.toNat).isSome then 0 else 6
def remL (n:Nat) (M:List En) (id:Int):List En:=if remC n M id=0 then cut id.toNat M else M
def tkI:List En→Int
 |[]=>0
 |x::_=>(x.1:Int)
def tkK:List En→Ke.K
 |[]=>⟨false,0,0⟩
 |x::_=>x.2
def tkO:List En→Bool
 |[]=>false
 |_::_=>true
theorem bad_cases (n:Nat) (M:List En) (id:Int) (k:Ke.K):Bad n id k∨(∃i:Nat,id=i∧i<n∧Ke.rightK k=true∧ ¬Bad n (i:Int) k):=by
 by_cases h:Bad n id k
 ·grind
 ·have h':=h
  unfold Bad at h'
  simp only[not_or] at h'
  grind[Int.eq_ofNat_of_zero_le]
section
variable {w:World} {sb qb gq hb gh n most turn:Nat} {M:List En}
theorem IsS.nd (h:IsS w sb qb gq hb gh n most turn M):(M.map (·.1)).Nodup:=by obtain⟨_,_,_,hI⟩:=h;exact hI.nd
theorem IsS.fit (h:IsS w sb qb gq hb gh n most turn M):M.length≤most:=by obtain⟨_,_,_,hI⟩:=h;exact hI.fits
theorem sput_all (h:IsS w sb qb gq hb gh n most turn M) (ht:turn≤1000000000) (id:Int) (k:Ke.K) (hk:k.ok):
  vCa 148 #[vPt sb,vI6 id,.agg (vKy k)] w fun e w'=>e= .returned (vI6 (putC n most M id k))∧(∃t,t≤turn+1∧IsS w' sb qb gq hb gh n most t (putL n most M id k))∧Fr (OwnS sb qb gq hb gh) w w':=by
 unfold putL putC
 rcases bad_cases n M id k with hb|⟨i,rfl,hi,hr,hnb⟩
 ·rw[if_pos hb,if_neg (by decide)]
  refine(sPut_no h id k hb).mono ?_
  rintro e w' ⟨rfl,hb'⟩
  exact⟨rfl,⟨turn,by omega,h.below hb'⟩,Fr.of_below' hb'⟩
 ·rw[if_neg hnb]
  cases hko:keyOf M (i:Int).toNat with
  |some k'=>
   rw[if_pos mK,if_neg (by decide)]
   refine(sPut_known h i hi k hr k' hko).mono ?_
   rintro e w' ⟨rfl,hb'⟩
   exact⟨rfl,⟨turn,by omega,h.below hb'⟩,Fr.of_below' hb'⟩
  |none=>
   rw[if_neg (by simp)]
   by_cases hf:M.length=most
   ·rw[if_pos hf,if_neg (by decide)]
    refine(sPut_full h i hi k hr hko hf).mono ?_
    rintro e w' ⟨rfl,hb'⟩
    exact⟨rfl,⟨turn,by omega,h.below hb'⟩,Fr.of_below' hb'⟩
   ·rw[if_neg hf,if_pos rfl]
    have:=h.fit
    grind[put_new,Calls.mono]
theorem schange_all (h:IsS w sb qb gq hb gh n most turn M) (ht:turn≤1000000000) (id:Int) (k:Ke.K) (hk:k.ok):
  vCa 135 #[vPt sb,vI6 id,.agg (vKy k)] w fun e w'=>e= .returned (vI6 (chgC n M id k))∧(∃t,t≤turn+1∧IsS w' sb qb gq hb gh n most t (chgL n M id k))∧Fr (OwnS sb qb gq hb gh) w w':=by
 unfold chgL chgC
 rcases bad_cases n M id k with hb|⟨i,rfl,hi,hr,hnb⟩
 ·rw[if_pos hb,if_neg (by decide)]
  refine(sChange_no h id k hb).mono ?_
  rintro e w' ⟨rfl,hb'⟩
  exact⟨rfl,⟨turn,by omega,h.below hb'⟩,Fr.of_below' hb'⟩
 ·rw[if_neg hnb]
  cases hko:keyOf M (i:Int).toNat with
  |none=>
   rw[if_neg (by simp),if_neg (by decide)]
   refine(sChange_none h i hi k hr hko).mono ?_
   rintro e w' ⟨rfl,hb'⟩
   exact⟨rfl,⟨turn,by omega,h.below hb'⟩,Fr.of_below' hb'⟩
  |some k'=>
   rw[if_pos mK,if_pos rfl]
   by_cases hkk:k'=k
   ·subst hkk
    rw[if_pos rfl]
    refine(sChange_same h i hi k' hr hko).mono ?_
    rintro e w' ⟨rfl,hb'⟩
    exact⟨rfl,⟨turn,by omega,h.below hb'⟩,Fr.of_below' hb'⟩
   ·rw[if_neg (by grind)]
    grind[sChange_other,Calls.mono]
theorem Own.wide {k:Nat} (h:Own qb gq hb gh k):OwnS sb qb gq hb gh k:= .inr h
theorem sremove_all (h:IsS w sb qb gq hb gh n most turn M) (id:Int):
  vCa 175 #[vPt sb,vI6 id] w fun e w'=>e= .returned (vI6 (remC n M id))∧(∃t,t≤turn+1∧IsS w' sb qb gq hb gh n most t (remL n M id))∧Fr (OwnS sb qb gq hb gh) w w':=by
 unfold remL remC
 by_cases hb:id<0∨(n:Int)≤id
 ·rw[if_pos hb,if_neg (by decide)]
  grind[id_S,sremove_range,Calls.mono,Fr.refl]
 ·rw[if_neg hb]
  obtain⟨i,rfl⟩:=Int.eq_ofNat_of_zero_le (show 0≤id by omega)
  cases hko:keyOf M (i:Int).toNat with
  |none=>
   rw[if_neg (by simp),if_neg (by decide)]
   obtain⟨R,L,hS,hI⟩:=id_S h
   have hm:=keyOf_none.1 hko
   refine(sremove_none hS i (by omega) (hI.missR hm) (hI.missL hm)).mono ?_
   grind[Fr.refl]
  |some k'=>
   rw[if_pos mK,if_pos rfl]
   refine(remove_ok h ((keyOf_some h.nd).1 hko)).mono ?_
   grind[Fr.wide,Own.wide]
theorem stop_all (h:IsS w sb qb gq hb gh n most turn M):
  vQ 158 #[vPt sb] w (.tuple #[vI6 (tkI M),.agg (vKy (tkK M)),.bool (tkO M)]):=by
 cases M with
 |nil=>exact stop_none h.nil_parts
 |cons x M=>exact top_ok h
end
section
variable {w:World} {base rb n most:Nat} {v:Value} {M:List En}
end
section
variable {w w' w'':World} {base sb qb gq hb gh rb n most turn turn':Nat} {v v':Value} {M M':List En}
end
end Go.Proofs.YtnmhcgpnhlhcgaaGreatDoor

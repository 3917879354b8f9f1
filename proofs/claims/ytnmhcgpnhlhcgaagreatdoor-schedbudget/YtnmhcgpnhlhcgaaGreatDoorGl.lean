/- YtnmhcgpnhlhcgaaGreatDoorGl: of the texts C1 C2 C3 C4 C5 C6 C7 C8 C13 C14 C15 C16 T1 T2 T3 T4 T5 T6 T12 what is wanted. -/
import Derived.Test.YtnmhcgpnhlhcgaaGreatDoorG0
import Derived.Test.YtnmhcgpnhlhcgaaGreatDoorChecked
import Derived.WalkKit
import Derived.ProofKit
import Derived.Below
import Derived.Carry
import Derived.Laws.OwnMore
import Derived.Maps.AppendAt
import Derived.Deep.AppendLies
import Derived.Deep.RegionHeld3
import Derived.Lib.SmallJoins
import Derived.OneCell
import Derived.Lib.BitFns
import Derived.LoopIn
import Derived.LoopNIn
import Derived.OrdersHeld
import Derived.OrdersIn
import Derived.OwnWalkIn
import Derived.RangeFuncBound
import Derived.RangeFuncBox
import Derived.RangeFuncCalls
import Derived.RangeFuncLeaves
import Derived.RangeFuncNested
import Derived.Shelf.Abstract
import Derived.Shelf.RegionOpen
import Derived.TacticsInMore
import Derived.Test.YtnmhcgpnhlhcgaaGreatDoorRows
import Derived.WalkSpells
import Derived.WalkLawsBesides
import Derived.StillTactics
import Derived.RegionTactic
import Derived.RowKit3
import Derived.Laws.MakeOwn
import Derived.OwnWalk
import Derived.Deep.QuietTactic
import Derived.BigQuiet
import Derived.Deep.DrawnRows
import Derived.OpenShut
import Derived.Deep.Slices
import Derived.Deep.Strs
import Derived.ChangeOld
import Derived.ChangeSame
import Derived.Lib.LaidTab
set_option maxHeartbeats 16000000
set_option maxRecDepth 100000
set_option linter.unusedVariables false
set_option linter.unusedSimpArgs false
namespace Go.Proofs.YtnmhcgpnhlhcgaaGreatDoor.Cb
open Go.RowKit Go.Lib
section
variable {S S':Nat→Prop} {w w' w'':World}
end
structure Srv where
 b:Nat
 p:Nat
 l:Nat
 d:Nat
def Srv.ok (x:Srv):Prop:=1≤x.b∧x.b≤x.p∧232792560%x.p=0∧x.l≤x.b∧x.d<18446744073709551616
theorem Srv.ok.pos {x:Srv} (h:x.ok):0<x.p:=by have:=h.1;have:=h.2.1;omega
theorem Srv.ok.le {x:Srv} (h:x.ok):x.p≤232792560:=Nat.le_of_dvd (by decide) (Nat.dvd_of_mod_eq_zero h.2.2.1)
def asks (x:Srv):Nat:=x.b*(232792560/x.p)
def sumOf (L:List Srv):Nat:=(L.map asks).sum
theorem asks_le {x:Srv} (h:x.ok):asks x≤232792560:=by
 unfold asks
 refine Nat.le_trans (Nat.mul_le_mul_right _ h.2.1) ?_
 exact Nat.mul_div_le 232792560 x.p
theorem sum_le {L:List Srv} (h: ∀x∈L,x.ok):sumOf L≤L.length*232792560:=by
 induction L with
 |nil=>decide
 |cons x L ih=>
  grind[Cb.asks_le,Cb.sumOf]
structure Fine (P:Nat) (L:List Srv):Prop where
 p1:1≤P
 p2:P≤64
 all: ∀x∈L,x.ok
 len:L.length≤32
def addN (a b:Nat):Nat:=if a+b≤18446744073709551615 then a+b else 18446744073709551615
def fillS (x:Srv) (now:Nat):Srv:=⟨x.b,x.p,x.b,addN now x.p⟩
def pone (x:Srv):List Value:=[vU6 (x.b:Int),vU6 (x.p:Int),vU6 (x.l:Int),vU6 (x.d:Int)]
def pcells (L:List Srv):List Value:=L.flatMap pone
theorem pcells_cons (x:Srv) (L:List Srv):pcells (x::L)=pone x++pcells L:=rfl
theorem pcells_append (L M:List Srv):pcells (L++M)=pcells L++pcells M:=by unfold pcells;simp
theorem pcells_at: ∀(L:List Srv) (i:Nat) (x:Srv),L[i]? =some x→(pcells L)[i*4]? =some (vU6 (x.b:Int))∧(pcells L)[i*4+1]? =some (vU6 (x.p:Int))∧(pcells L)[i*4+2]? =some (vU6 (x.l:Int))∧(pcells L)[i*4+3]? =some (vU6 (x.d:Int))
 |[],i,x,h=>by simp at h
 |y::L,0,x,h=>by
  simp at h
  subst h
  exact⟨rfl,rfl,rfl,rfl⟩
 |y::L,i+1,x,h=>by
  have:=pcells_at L i x (by grind)
  rw[pcells_cons,show(i+1)*4=i*4+4 by omega]
  exact this
theorem pcells_set: ∀(L:List Srv) (i:Nat) (x:Srv),i<L.length→pcells (L.set i x)=((((pcells L).set (i*4) (vU6 (x.b:Int))).set (i*4+1) (vU6 (x.p:Int))).set (i*4+2) (vU6 (x.l:Int))).set (i*4+3) (vU6 (x.d:Int))
 |[],i,x,h=>by simp at h
 |y::L,0,x,h=>by rfl
 |y::L,i+1,x,h=>by
  have:=pcells_set L i x (by grind)
  rw[List.set_cons_succ,pcells_cons,this,pcells_cons,show(i+1)*4=i*4+4 by omega]
  rfl
structure Pep (w:World) (base s P:Nat) (v:Value) (L:List Srv):Prop where
 blk:w.heap[s]? =some (.cells #[vU6 (P:Int),v] 155 (0,0))
 own:w.ownsRow base 184 4 v L.length (pcells L)
 bs:base≤w.heap.size
 f:Fine P L
section
variable {w w':World} {base s P:Nat} {v:Value} {L:List Srv}
theorem Pep.lt (h:Pep w base s P v L):s<w.heap.size:=(Array.getElem?_eq_some_iff.1 h.blk).1
theorem Pep.ne (h:Pep w base s P v L):v.ownBlock≠some s:=by
 intro q
 obtain⟨_,_,cur,e⟩:=ownsRow_blk h.own q
 rw[h.blk] at e
 simp at e
theorem Pep.c0 (h:Pep w base s P v L):w.cell? (vA0 s)=some (vU6 (P:Int)):=by unfold World.cell?;simp[h.blk]
theorem Pep.c1 (h:Pep w base s P v L):w.cell? (vAt s 1)=some v:=by unfold World.cell?;simp[h.blk]
theorem Pep.form (h:Pep w base s P v L): ∃a cap,v= .slice a L.length cap∧L.length≤cap∧cap≤maxLen:=by
 rcases h.own.2 with ⟨e,e0⟩|⟨g,cap,cur,e,_,_,h1,h2,_⟩
 ·grind
 grind
theorem Pep.cells (h:Pep w base s P v L) (hL:0<L.length): ∃g cap,v= .slice (some (vA0 g)) L.length cap∧L.length≤cap∧cap≤maxLen∧g<w.heap.size∧g≠s∧(∀k,w.frozen? (vAt g k)=false)∧
  (∀j x,L[j]? =some x→w.cell? (vAt g (j*4))=some (vU6 (x.b:Int))∧w.cell? (vAt g (j*4+1))=some (vU6 (x.p:Int))∧w.cell? (vAt g (j*4+2))=some (vU6 (x.l:Int))∧w.cell? (vAt g (j*4+3))=some (vU6 (x.d:Int))):=by
 have hne:=h.ne
 rcases h.own.2 with ⟨e,e0⟩|⟨g,cap,cur,e,h0,hg,h1,h2,_⟩
 ·omega
 ·have hown:=h.own
  subst e
  refine⟨g,cap,rfl,h1,h2,(Array.getElem?_eq_some_iff.1 hg).1,fun q=>hne (by rw[q];rfl),frozen_row hown,fun j x hj=> ?_⟩
  have hjl:=(List.getElem?_eq_some_iff.1 hj).1
  rw[hown.cellAt (j*4) (by omega),hown.cellAt (j*4+1) (by omega),hown.cellAt (j*4+2) (by omega),hown.cellAt (j*4+3) (by omega)]
  exact pcells_at L j x hj
theorem Pep.kept (h:Pep w base s P v L) (h0:w.heap.size≤w'.heap.size) (h1:w'.heap[s]? =w.heap[s]?) (h2: ∀k,v.ownBlock=some k→w'.heap[k]? =w.heap[k]?):Pep w' base s P v L:=
 ⟨h1.trans h.blk,ownsRow_far h.own h2,Nat.le_trans h.bs h0,h.f⟩
theorem Pep.frame {S:Nat→Prop} (h:Pep w base s P v L) (hf:Fr S w w') (h1: ¬S s) (h2: ∀k,v.ownBlock=some k→ ¬S k):Pep w' base s P v L:=
 h.kept hf.size (hf.block s h.lt h1) (fun k hk=>hf.block k (ownsRow_blk h.own hk).2.1 (h2 k hk))
theorem Pep.below (h:Pep w base s P v L) (hf:vBw w w'):Pep w' base s P v L:=
 h.frame (Fr.of_below' (S:=fun _=>False) hf) id (fun _ _=>id)
theorem Pep.like (h:Pep w base s P v L) (a:w'.heap=w.heap):Pep w' base s P v L:=h.kept (by grind) (by rw[a]) (by grind)
theorem Pep.stored {v':Value} {L':List Srv} (hb:w.heap[s]? =some (.cells #[vU6 (P:Int),v] 155 (0,0)))
  (hown:w.ownsRow base 184 4 v' L'.length (pcells L')) (hbs:base≤w.heap.size) (hf:Fine P L'):Pep (w.setCell (vAt s 1) v') base s P v' L':=by
 have hne:v'.ownBlock≠some s:=by
  intro q
  obtain⟨_,_,cur,e⟩:=ownsRow_blk hown q
  grind
 exact⟨Go.Joins.block_setCell hb v',ownsRow_setCell_other hown hne v',by simp_all,hf⟩
end
section
variable {w w':World} {base s P:Nat} {v:Value} {L:List Srv}
end
theorem wrapU (z:Int) (h0:0≤z) (h1:z<18446744073709551616):IntKind.u64.wrap z=z:=by
 unfold IntKind.wrap
 simp[IntKind.bits,IntKind.signed]
 omega
def rightB (b p:Nat):Bool:=decide (1≤b∧b≤p∧232792560%p=0)
theorem right_ok (w:World) (b p:Nat):vCa 71 #[.agg #[vU6 (b:Int),vU6 (p:Int)]] w fun e w'=>e= .returned (.bool (rightB b p))∧ ∃c,w'=w.alloc (.cells c 182):=by
 unfold rightB
 by_cases h1:1≤b
 ·have g1:(1:Int)≤(b:Int):=by omega
  by_cases h2:b≤p
  ·have g2:(b:Int)≤(p:Int):=by omega
   have g3: ¬(p:Int)=0:=by omega
   have g4:((232792560%(p:Int))==0)=decide (232792560%p=0):=by
    grind
   refine ge ?_
   go_wp2
   go_ret
   exact⟨by simp_all,_,rfl⟩
  ·have g2: ¬(b:Int)≤(p:Int):=by omega
   refine ge ?_
   go_wp2
   go_ret
   exact⟨by simp,_,rfl⟩
 ·have g1: ¬(1:Int)≤(b:Int):=by omega
  refine ge ?_
  go_wp2
  go_ret
  exact⟨by simp,_,rfl⟩
theorem asks_ok (w:World) (x:Srv) (hx:x.ok):vCa 73 #[.agg #[vU6 (x.b:Int),vU6 (x.p:Int)]] w fun e w'=>e= .returned (vU6 (asks x:Int))∧ ∃c,w'=(w.alloc (.cells c 182)).drew:=by
 have g3: ¬(x.p:Int)=0:=by have:=hx.pos;omega
 have g5: ¬x.p=0:=by omega
 have g4:IntKind.u64.wrap ((x.b:Int)*IntKind.u64.wrap (Int.tdiv 232792560 (x.p:Int)))=(asks x:Int):=by
  have h:=asks_le hx
  have e1:Int.tdiv 232792560 (x.p:Int)=((232792560/x.p:Nat):Int):=by rfl
  have e2:232792560/x.p≤232792560:=Nat.div_le_self _ _
  have e3:IntKind.u64.wrap ((232792560/x.p:Nat):Int)=((232792560/x.p:Nat):Int):=by
   generalize 232792560/x.p=q at e2
   grind[Cb.wrapU]
  have e:(asks x:Int)=(x.b:Int)*((232792560/x.p:Nat):Int):=by rfl
  grind[Cb.wrapU]
 refine ge ?_
 go_wp2
 go_region_held3 (fun w'=>w'.cell? (vA0 w.heap.size)=some (vU6 (x.b:Int))∧w'.cell? (vAt w.heap.size 1)=some (vU6 (x.p:Int)))
  (simp[go_sem])
  (first|fail)
 go_wp2
 go_ret
 exact⟨by simp,_,rfl⟩
theorem new_ok (w:World) (P:Nat) (h1:1≤P) (h2:P≤64):vCa 34 #[vI6 (P:Int)] w fun e w'=>e= .returned (vPt w.heap.size)∧w'=w.alloc (.cells #[vU6 (P:Int),.slice none 0 0] 155):=by
 have g1: ¬(P:Int)<1:=by omega
 have g2: ¬(64:Int)<(P:Int):=by omega
 have g3:(P:Int)%18446744073709551616=P:=by omega
 refine ge ?_
 go_wp2
 go_ret
 simp
theorem over_ok (w:World) (x:Srv) (now:Nat):vCa 143 #[.agg #[vU6 (x.b:Int),vU6 (x.p:Int),vU6 (x.l:Int),vU6 (x.d:Int)],vU6 (now:Int)] w fun e w'=>e= .returned (.bool (decide (x.d≤now)))∧ ∃c,w'=w.alloc (.cells c 184):=by
 refine ge ?_
 go_wp2
 go_ret
 exact⟨by simp,_,rfl⟩
theorem sleeps_ok (w:World) (x:Srv):vCa 144 #[.agg #[vU6 (x.b:Int),vU6 (x.p:Int),vU6 (x.l:Int),vU6 (x.d:Int)]] w fun e w'=>e= .returned (.bool (x.d==0))∧ ∃c,w'=w.alloc (.cells c 184):=by
 refine ge ?_
 go_wp2
 go_ret
 refine⟨?_,_,rfl⟩
 have h:(((x.d:Nat):Int)==0)=(x.d==0):=by grind
 simp[h]
theorem add_ok (a b:Nat) (w:World) (ha:a<18446744073709551616) (hb:b<18446744073709551616):
  vS 46 #[vU6 (a:Int),vU6 (b:Int)] w (vU6 (addN a b:Int)):=by
 unfold addN
 by_cases h:a+b≤18446744073709551615
 ·rw[if_pos h]
  have h': ¬(18446744073709551615:Int)-b<a:=by omega
  refine ge ?_
  go_wp2
  go_ret
  simp
 ·rw[if_neg h]
  have h':(18446744073709551615:Int)-b<a:=by omega
  refine ge ?_
  go_wp2
  go_ret
  simp
theorem filled_ok (w:World) (x:Srv) (now:Nat) (hx:x.ok) (hn:now<18446744073709551616):vCa 93 #[.agg #[vU6 (x.b:Int),vU6 (x.p:Int),vU6 (x.l:Int),vU6 (x.d:Int)],vU6 (now:Int)] w fun e w'=>e= .returned (.agg #[vU6 ((fillS x now).b:Int),vU6 ((fillS x now).p:Int),vU6 ((fillS x now).l:Int),vU6 ((fillS x now).d:Int)])∧ ∃c c',w'=((w.alloc (.cells c 184)).alloc (.cells c' 184)).drew:=by
 have HA:=veil (fun w=>add_ok now x.p w hn (by have:=hx.le;omega))
 refine ge ?_
 go_wp2
 go_region_held3 (fun w'=>w'.cell? (vA0 w.heap.size)=some (vU6 (x.b:Int))∧w'.cell? (vAt w.heap.size 1)=some (vU6 (x.p:Int)))
  (first|simp[go_sem]|simp[go_sem,World.cell?_alloc_past])
  (first|(go_at_call 46;refine(HA.out _).mono ?_;rintro e w1 ⟨rfl,rfl⟩))
 go_wp2
 simp[bodyPost,results,Tryz.results93,go_sem,fillS]
 grind
section
variable {w:World} {base s P:Nat} {v:Value} {L:List Srv}
theorem has_ok (h:Pep w base s P v L) (i:Int):vS 139 #[vPt s,vI6 i] w (.bool (decide (0≤i∧i<(L.length:Int)))):=by
 obtain⟨a,cap,rfl,_,_⟩:=h.form
 have c1:=h.c1
 clear h
 by_cases h0:0≤i
 ·refine ge ?_
  go_wp2
  go_ret
  simp_all
 ·refine ge ?_
  go_wp2
  go_ret
  exact⟨by simp;omega,rfl⟩
theorem len_ok (h:Pep w base s P v L):vS 54 #[vPt s] w (vI6 (L.length:Int)):=by
 obtain⟨a,cap,rfl,_,_⟩:=h.form
 have c1:=h.c1
 clear h
 refine ge ?_
 go_wp2
 go_ret
 simp
def atL (L:List Srv) (i:Int):Srv:=if 0≤i∧i<(L.length:Int) then(L[i.toNat]?).getD ⟨0,0,0,0⟩ else⟨0,0,0,0⟩
theorem at_ok (h:Pep w base s P v L) (i:Int):vCa 84 #[vPt s,vI6 i] w fun e w'=>e= .returned (.agg #[vU6 ((atL L i).b:Int),vU6 ((atL L i).p:Int),vU6 ((atL L i).l:Int),vU6 ((atL L i).d:Int)])∧ ∃c,w'=w.alloc (.cells c 184):=by
 unfold atL
 by_cases hi:0≤i∧i<(L.length:Int)
 ·rw[if_pos hi]
  obtain⟨k,rfl⟩: ∃k:Nat,i=k:=⟨i.toNat,by omega⟩
  have hk:k<L.length:=by omega
  obtain⟨x,hx⟩: ∃x,L[k]? =some x:=⟨_,List.getElem?_eq_getElem hk⟩
  have HH:=veil (fun w' (hb:vBw w w')=>has_ok (h.below hb) (k:Int))
  simp only[decide_eq_true hi] at HH
  obtain⟨g,cap,rfl,hc1,hc2,hg,hgs,_,hc⟩:=h.cells (by omega)
  obtain⟨y0,y1,y2,y3⟩:=hc k x hx
  have c1:=h.c1
  have hs:=h.lt
  simp only[Int.toNat_natCast,hx,Option.getD_some]
  clear h hc hi
  refine ge ?_
  go_wp2_with (go_at_call 139;refine(HH.out _ bzA).mono ?_;rintro e w1 ⟨rfl,hw⟩;subst hw)
  simp[bodyPost,results,Tryz.results84,go_sem]
  grind
 ·rw[if_neg hi]
  have HH:=veil (fun w' (hb:vBw w w')=>has_ok (h.below hb) i)
  simp only[decide_eq_false hi] at HH
  clear h hi
  refine ge ?_
  go_wp2_with (go_at_call 139;refine cS (HH.out _ bzA) ?_)
  simp[bodyPost,results,Tryz.results84,go_sem]
  grind
end
@[go_sem] theorem field_left (a b c d : Int) (w : World) : (Instr.field 184 (.agg #[vU6 a, vU6 b, vU6 c, vU6 d]) 1).run Tryz.prog w = .ok (vU6 c) w := by rfl
@[go_sem] theorem field_dead (a b c d : Int) (w : World) : (Instr.field 184 (.agg #[vU6 a, vU6 b, vU6 c, vU6 d]) 2).run Tryz.prog w = .ok (vU6 d) w := by rfl
section
variable {w:World} {base s P:Nat} {v:Value} {L:List Srv}
theorem left_ok (h:Pep w base s P v L) (i:Int):vCa 44 #[vPt s,vI6 i] w fun e w'=>e= .returned (vU6 ((atL L i).l:Int))∧ ∃c,w'=w.alloc (.cells c 184):=by
 have HA:=veil (at_ok h i)
 clear h
 refine ge ?_
 go_wp2_with (go_at_call 84;refine(HA.out).mono ?_;rintro e w1 ⟨rfl,c,rfl⟩)
 go_ret
 exact⟨rfl,_,rfl⟩
theorem deadline_ok (h:Pep w base s P v L) (i:Int):vCa 132 #[vPt s,vI6 i] w fun e w'=>e= .returned (vU6 ((atL L i).d:Int))∧ ∃c,w'=w.alloc (.cells c 184):=by
 have HA:=veil (at_ok h i)
 clear h
 refine ge ?_
 go_wp2_with (go_at_call 84;refine(HA.out).mono ?_;rintro e w1 ⟨rfl,c,rfl⟩)
 go_ret
 exact⟨rfl,_,rfl⟩
theorem active_ok (h:Pep w base s P v L) (i:Int):vCa 130 #[vPt s,vI6 i] w fun e w'=>e= .returned (.bool (decide (0<(atL L i).l)))∧ ∃c,w'=w.alloc (.cells c 184):=by
 have HA:=veil (at_ok h i)
 clear h
 refine ge ?_
 go_wp2_with (go_at_call 84;refine(HA.out).mono ?_;rintro e w1 ⟨rfl,c,rfl⟩)
 go_ret
 exact⟨by simp,_,rfl⟩
theorem sum_take (L:List Srv) (j:Nat) (x:Srv) (h:L[j]? =some x):sumOf (L.take (j+1))=sumOf (L.take j)+asks x:=by
 grind[Cb.sumOf,List.take_add_one]
theorem sum_ok (h:Pep w base s P v L):vQ 72 #[vPt s] w (vU6 (sumOf L:Int)):=by
 have HP:=veil h
 obtain⟨a,cap,rfl,_,_⟩:=h.form
 have c1:=h.c1
 have hlen:=h.f.len
 clear h
 refine ge ?_
 go_wp2
 go_loopw [3,13] (fun sm i wr=> ∃(j:Nat),j≤L.length∧i=vI6 j∧sm=vU6 (sumOf (L.take j):Int)∧vBw w wr) (fun _ i _=>L.length-(intOf i).toNat)
 case atStart=>exact⟨0,by omega,rfl,rfl,bzR⟩
 case round=>
  obtain⟨j,hj,rfl,rfl,hbel⟩:=hrel
  by_cases hjl:j<L.length
  ·have hjl':(j:Int)<(L.length:Int):=by omega
   obtain⟨x,hx⟩: ∃x,L[j]? =some x:=⟨_,List.getElem?_eq_getElem hjl⟩
   obtain⟨g,cap',e,_,_,hg,_,_,hc⟩:=(HP.out.below hbel).cells (by omega)
   simp at e
   obtain⟨rfl,rfl⟩:=e
   obtain⟨y0,y1,y2,y3⟩:=hc j x hx
   have hok:=HP.out.f.all x (List.mem_of_getElem? hx)
   have HA:=veil (fun w=>asks_ok w x hok)
   have hs:=sum_take L j x hx
   have hle:sumOf (L.take (j+1))≤32*232792560:=by
    refine Nat.le_trans (sum_le (fun y hy=>HP.out.f.all y (by grind))) ?_
    grind
   have hw:IntKind.u64.wrap ((sumOf (L.take j):Int)+(asks x:Int))=(sumOf (L.take (j+1)):Int):=by
    grind[Cb.wrapU]
   have HW:=veil hw
   have hw':((sumOf (L.take j):Int)+(asks x:Int))%18446744073709551616=(sumOf (L.take (j+1)):Int):=by
    omega
   have HB:=veil hbel
   clear hc hbel hs hle hok hw
   go_wp2_with (go_at_call 73;refine(HA.out _).mono ?_;rintro e w2 ⟨rfl,c,rfl⟩)
   go_roundw
   case rel=>exact⟨j+1,by omega,by go_num,by first|rfl|simp[HW.out],((HB.out.alloc HB.out.size _).alloc (by have:=HB.out.size;simp;omega) _).drew⟩
   case measure=>simp[intOf];omega
  ·have hjl': ¬(j:Int)<(L.length:Int):=by omega
   obtain rfl:j=L.length:=by omega
   have HB:=veil hbel
   clear hbel
   go_wp2
   go_ret
   exact⟨by simp,HB.out⟩
theorem Pep.put (h:Pep w base s P v L) {g cap k:Nat} (hv:v= .slice (some (vA0 g)) L.length cap) (hk:k<L.length) (x:Srv) (hx:x.ok):
  Pep ((((w.setCell (vAt g (k*4)) (vU6 (x.b:Int))).setCell (vAt g (k*4+1)) (vU6 (x.p:Int))).setCell (vAt g (k*4+2)) (vU6 (x.l:Int))).setCell (vAt g (k*4+3)) (vU6 (x.d:Int))) base s P v (L.set k x):=by
 have hne:=h.ne
 subst hv
 have hgs: ¬s=g:=fun q=>hne (by rw[q];rfl)
 have h1:=ownsRow_set (ownsRow_set (ownsRow_set (ownsRow_set h.own (k*4) (by omega) (vU6 (x.b:Int))) (k*4+1) (by omega) (vU6 (x.p:Int))) (k*4+2) (by omega) (vU6 (x.l:Int))) (k*4+3) (by omega) (vU6 (x.d:Int))
 rw[←pcells_set L k x hk] at h1
 refine⟨?_,by simpa using h1,by simpa using h.bs,⟨h.f.p1,h.f.p2,?_,by simpa using h.f.len⟩⟩
 ·grind[RowKit.Below.heap_setCell,Cb.Pep.blk]
 ·intro y hy
  rcases List.mem_or_eq_of_mem_set hy with q|q
  ·exact h.f.all y q
  ·rw[q];exact hx
end
theorem addN_lt (a b:Nat):addN a b<18446744073709551616:=by unfold addN;grind
theorem fill_ok {x:Srv} (h:x.ok) (now:Nat):(fillS x now).ok:=⟨h.1,h.2.1,h.2.2.1,lzr,addN_lt _ _⟩
theorem set_self {xs:List Value} {k:Nat} {u:Value} (h:xs[k]? =some u):xs.set k u=xs:=by
 apply List.ext_getElem?
 grind
theorem natBeq (n:Nat):((n:Int)==0)=(n==0):=by grind
theorem fr_put {S:Nat→Prop} {w w1:World} (hb:vBw w w1) (g k0 k1 k2 k3:Nat) (u0 u1 u2 u3:Value) (hS:S g):Fr S w ((((w1.setCell (vAt g k0) u0).setCell (vAt g k1) u1).setCell (vAt g k2) u2).setCell (vAt g k3) u3):=
 ((((Fr.of_below' hb).setCell (a:=(vAt g k0)) hS _).setCell (a:=(vAt g k1)) hS _).setCell (a:=(vAt g k2)) hS _).setCell (a:=(vAt g k3)) hS _
section
variable {w:World} {base s P:Nat} {v:Value} {L:List Srv}
theorem Pep.one {g cap:Nat} (h:Pep w base s P (.slice (some (vA0 g)) L.length cap) L) {k:Nat} {x:Srv} (hx:L[k]? =some x):
  w.cell? (vAt s 1)=some (.slice (some (vA0 g)) L.length cap)∧w.cell? (vAt g (k*4))=some (vU6 (x.b:Int))∧w.cell? (vAt g (k*4+1))=some (vU6 (x.p:Int))∧w.cell? (vAt g (k*4+2))=some (vU6 (x.l:Int))∧w.cell? (vAt g (k*4+3))=some (vU6 (x.d:Int))∧
  w.frozen? (vAt g (k*4))=false∧w.frozen? (vAt g (k*4+1))=false∧w.frozen? (vAt g (k*4+2))=false∧w.frozen? (vAt g (k*4+3))=false:=by
 have hk:=(List.getElem?_eq_some_iff.1 hx).1
 obtain⟨g',cap',e,_,_,_,_,hf,hc⟩:=h.cells (by omega)
 simp at e
 obtain⟨rfl,rfl⟩:=e
 obtain⟨y0,y1,y2,y3⟩:=hc k x hx
 exact⟨h.c1,y0,y1,y2,y3,hf _,hf _,hf _,hf _⟩
theorem wake_range (h:Pep w base s P v L) (i:Int) (now:Nat) (hi: ¬(0≤i∧i<(L.length:Int))):vS 95 #[vPt s,vI6 i,vU6 (now:Int)] w (vI6 2):=by
 have HH:=veil (has_ok h i)
 rw[decide_eq_false hi] at HH
 clear h hi
 refine ge ?_
 go_wp2_with (go_at_call 139;refine cS HH.out ?_)
 go_ret
 simp
theorem wake_not (h:Pep w base s P v L) (k now:Nat) (x:Srv) (hx:L[k]? =some x) (hd: ¬x.d≤now):vQ 95 #[vPt s,vI6 (k:Int),vU6 (now:Int)] w (vI6 0):=by
 have hk:=(List.getElem?_eq_some_iff.1 hx).1
 have HH:=veil (has_ok h k)
 rw[decide_eq_true (by omega)] at HH
 have HO:=veil (fun w=>over_ok w x now)
 simp only[decide_eq_false hd] at HO
 obtain⟨g,cap,rfl,hc1,hc2,hg,hgs,hfz,hc⟩:=h.cells (by omega)
 obtain⟨y0,y1,y2,y3⟩:=hc k x hx
 have c1:=h.c1
 clear h hc hd
 refine ge ?_
 go_wp2_with (first
  |(go_at_call 139;refine cS HH.out ?_)
  |(go_at_call 143;refine(HO.out _).mono ?_;rintro e w1 ⟨rfl,c,rfl⟩))
 go_ret
 exact⟨rfl,bzA⟩
theorem wake_yes (h : Pep w base s P v L) (k now : Nat) (x : Srv) (hx : L[k]? = some x) (hd : x.d ≤ now) (hn : now < 18446744073709551616) : vCa 95 #[vPt s, vI6 (k : Int), vU6 (now : Int)] w fun e w' => e = .returned (vI6 0) ∧ Pep w' base s P v (L.set k (fillS x now)) ∧ Fr (fun k => some k = v.ownBlock) w w' := by
 have hk := (List.getElem?_eq_some_iff.1 hx).1
 have HH := veil (has_ok h k)
 rw [decide_eq_true (by omega)] at HH
 have HO := veil (fun w => over_ok w x now)
 simp only [decide_eq_true hd] at HO
 have hok := h.f.all x (List.mem_of_getElem? hx)
 have HF := veil (fun w => filled_ok w x now hok hn)
 have HE := veil fun w1 (hb : vBw w w1) => h.below hb
 have HX := veil (fill_ok hok now)
 obtain ⟨g, cap, hv, hc1, hc2, hg, hgs, hfz, hc⟩ := h.cells (by omega)
 subst hv
 obtain ⟨y0, y1, y2, y3⟩ := hc k x hx
 have c1 := h.c1
 have f0 := hfz (k * 4)
 have f1 := hfz (k * 4 + 1)
 have f2 := hfz (k * 4 + 2)
 have f3 := hfz (k * 4 + 3)
 have hs := h.lt
 clear h hc hd hok hfz
 refine ge ?_
 go_wp2_with (first
  | (go_at_call 139; refine cS HH.out ?_)
  | (go_at_call 143; refine (HO.out _).mono ?_; rintro e w1 ⟨rfl, c, rfl⟩))
 refine wp_region_held_drew (S := (fun w' => w'.cell? (vAt s 1) = some (.slice (some (vA0 g)) L.length cap))) (by rfl) ?_ (fun hHeld => ?_)
 ·simp [go_sem, c1, hs]
 refine st ?_
 repeat' first
  | refine dn ?_
  | refine tk ?_
  | refine rd ?_
  | exact opZ
  | refine opN ?_
  | refine opS ?_ ?_
  | (refine opY 13 (fun K hK => ?_)
     go_simp
     refine (HF.out _).mono ?_
     rintro e w1 ⟨rfl, c', c2, hw⟩
     have hb : vBw w w1 := by rw [hw]; exact (((bzA.drew).alloc (by simp) _).alloc (by simp; omega) _).drew
     clear hw
     have HP1 := veil (HE.out _ hb)
     have HB := veil hb
     obtain ⟨z1, y0', y1', y2', y3', f0', f1', f2', f3'⟩ := HP1.out.one hx
     clear hb
     go_wp2_with fail
     refine hK.out _ _ ?_ (fun hHeld => ?_)
     ·exact z1
     clear hK K
     try simp only [puX])
  | (refine opY _ (fun K hK => ?_)
     go_simp
     refine hK.out _ _ ?_ (fun hHeld => ?_)
     ·go_keep
     clear hK K
     try simp only [puX])
 refine ⟨?_⟩
 go_wp2
 go_ret
 exact ⟨rfl, HP1.out.put rfl hk _ HX.out, fr_put HB.out g _ _ _ _ _ _ _ _ rfl⟩
theorem charge_range (h:Pep w base s P v L) (i:Int) (hi: ¬(0≤i∧i<(L.length:Int))):vS 91 #[vPt s,vI6 i] w (.tuple #[.bool false,vI6 2]):=by
 have HH:=veil (has_ok h i)
 rw[decide_eq_false hi] at HH
 clear h hi
 refine ge ?_
 go_wp2_with (go_at_call 139;refine cS HH.out ?_)
 go_ret2
 simp
theorem charge_none (h:Pep w base s P v L) (k:Nat) (x:Srv) (hx:L[k]? =some x) (hl:x.l=0):vS 91 #[vPt s,vI6 (k:Int)] w (.tuple #[.bool false,vI6 6]):=by
 have hk:=(List.getElem?_eq_some_iff.1 hx).1
 have HH:=veil (has_ok h k)
 rw[decide_eq_true (by omega)] at HH
 obtain⟨g,cap,rfl,hc1,hc2,hg,hgs,hfz,hc⟩:=h.cells (by omega)
 obtain⟨c1,y0,y1,y2,y3,f0,f1,f2,f3⟩:=h.one hx
 rw[hl] at y2
 clear h hc hfz
 refine ge ?_
 go_wp2_with (first
  |(go_at_call 139;refine cS HH.out ?_))
 go_ret2
 simp
def tickS (x:Srv):Srv:=⟨x.b,x.p,x.l-1,x.d⟩
theorem tick_ok {x:Srv} (h:x.ok):(tickS x).ok:=⟨h.1,h.2.1,h.2.2.1,Nat.le_trans (Nat.sub_le _ _) h.2.2.2.1,h.2.2.2.2⟩
theorem Pep.tick (h:Pep w base s P v L) {g cap k:Nat} (hv:v= .slice (some (vA0 g)) L.length cap) {x:Srv} (hx:L[k]? =some x) (hxl:1≤x.l):
  Pep (w.setCell (vAt g (k*4+2)) (vU6 ((x.l-1:Nat):Int))) base s P v (L.set k (tickS x)):=by
 have hne:=h.ne
 have hk:=(List.getElem?_eq_some_iff.1 hx).1
 have hok:=h.f.all x (List.mem_of_getElem? hx)
 subst hv
 have hgs: ¬s=g:=fun q=>hne (by rw[q];rfl)
 have h1:=ownsRow_set h.own (k*4+2) (by omega) (vU6 ((x.l-1:Nat):Int))
 have e:(pcells L).set (k*4+2) (vU6 ((x.l-1:Nat):Int))=pcells (L.set k (tickS x)):=by
  rw[pcells_set L k (tickS x) hk]
  obtain⟨a0,a1,a2,a3⟩:=pcells_at L k x hx
  have b0:(pcells L).set (k*4) (vU6 (x.b:Int))=pcells L:=by rw[set_self a0]
  have b1:(pcells L).set (k*4+1) (vU6 (x.p:Int))=pcells L:=by rw[set_self a1]
  have b3:((pcells L).set (k*4+2) (vU6 ((x.l-1:Nat):Int))).set (k*4+3) (vU6 (x.d:Int))=(pcells L).set (k*4+2) (vU6 ((x.l-1:Nat):Int)):=by
   rw[set_self (by grind)]
  show _=((((pcells L).set (k*4) (vU6 (x.b:Int))).set (k*4+1) (vU6 (x.p:Int))).set (k*4+2) (vU6 ((x.l-1:Nat):Int))).set (k*4+3) (vU6 (x.d:Int))
  grind
 rw[e] at h1
 refine⟨?_,by simpa using h1,by simpa using h.bs,⟨h.f.p1,h.f.p2,?_,by simpa using h.f.len⟩⟩
 ·grind[RowKit.Below.heap_setCell,Cb.Pep.blk]
 ·intro y hy
  rcases List.mem_or_eq_of_mem_set hy with q|q
  ·exact h.f.all y q
  ·rw[q];exact tick_ok hok
theorem charge_ok (h:Pep w base s P v L) (k:Nat) (x:Srv) (hx:L[k]? =some x) (hl:1≤x.l):vCa 91 #[vPt s,vI6 (k:Int)] w fun e w'=>e=vRt #[.bool (x.l-1==0),vI6 0]∧Pep w' base s P v (L.set k (tickS x))∧Fr (fun k=>some k=v.ownBlock) w w':=by
 have hk:=(List.getElem?_eq_some_iff.1 hx).1
 have HH:=veil (has_ok h k)
 rw[decide_eq_true (by omega)] at HH
 have HP:=veil h
 obtain⟨g,cap,rfl,hc1,hc2,hg,hgs,hfz,hc⟩:=h.cells (by omega)
 obtain⟨c1,y0,y1,y2,y3,f0,f1,f2,f3⟩:=h.one hx
 have hok:=h.f.all x (List.mem_of_getElem? hx)
 have n1: ¬(x.l:Int)=0:=by omega
 have n3: ¬x.l=0:=by omega
 have n2:(x.l:Int)-1=((x.l-1:Nat):Int):=by omega
 have n4:x.l<18446744073709551616:=by have:=hok.2.2.2.1;have:=hok.2.1;have:=hok.le;omega
 have n5:((x.l-1:Nat):Int)%18446744073709551616=((x.l-1:Nat):Int):=by omega
 clear h hc hfz hok
 refine ge ?_
 go_wp2_with (first
  |(go_at_call 139;refine cS HH.out ?_))
 go_ret2
 exact⟨by simp[natBeq],HP.out.tick rfl hx hl,(Fr.refl (fun k=>some k=some g) _).setCell (a:=(vAt g (k*4+2))) rfl _⟩
end
theorem infoServer:(Tryz.prog.info? 184).map (fun i=>(i.zero,i.size,i.bytes))=some (some (.agg #[vU6 0,vU6 0,vU6 0,vU6 0]),4,32):=by rfl
theorem right_iff (b p:Nat):rightB b p=true↔(⟨b,p,0,0⟩:Srv).ok:=by
 unfold rightB Srv.ok
 simp
@[go_sem] theorem buildT (a b : Int) (w : World) : (Instr.build 182 #[(0, vU6 a), (1, vU6 b)]).run Tryz.prog w = .ok (.agg #[vU6 a, vU6 b]) w := run_build w 182 _ _ (by rfl)
@[go_sem] theorem buildS (a b : Int) (w : World) : (Instr.build 184 #[(0, .agg #[vU6 a, vU6 b])]).run Tryz.prog w = .ok (.agg #[vU6 a, vU6 b, vU6 0, vU6 0]) w := run_build w 184 _ _ (by rfl)
theorem keepc {w w1 w2:World} {a0 a1 a2 a3:Addr} {u0 u1 u2 u3:Value} (h:w1.cell? a0=some u0∧w1.cell? a1=some u1∧w1.cell? a2=some u2∧w1.cell? a3=some u3∧vBw w w1) (hb:vBw w1 w2):
  w2.cell? a0=some u0∧w2.cell? a1=some u1∧w2.cell? a2=some u2∧w2.cell? a3=some u3∧vBw w w2:=by
 grind[RowKit.Below.cell,World.block_lt_of_cell?,RowKit.Below.trans,RowKit.Below.mono,RowKit.Below.size]
section
variable {w:World} {base s P:Nat} {v:Value} {L:List Srv}
theorem admit_range (h:Pep w base s P v L) (b p:Nat) (hr:rightB b p=false):vQ 39 #[vPt s,vU6 (b:Int),vU6 (p:Int)] w (.tuple #[vI6 0,vI6 2]):=by
 have HR:=veil (fun w=>right_ok w b p)
 simp only[hr] at HR
 clear h
 refine ge ?_
 go_wp2_with (go_at_call 71;refine(HR.out _).mono ?_;rintro e w1 ⟨rfl,c,rfl⟩)
 go_ret2
 exact⟨rfl,(bzA.alloc (by simp) _)⟩
theorem admit_full (h:Pep w base s P v L) (b p:Nat) (hr:rightB b p=true) (hl:L.length=32):vQ 39 #[vPt s,vU6 (b:Int),vU6 (p:Int)] w (.tuple #[vI6 0,vI6 4]):=by
 have HR:=veil (fun w=>right_ok w b p)
 simp only[hr] at HR
 obtain⟨a,cap,rfl,_,_⟩:=h.form
 have c1:=h.c1
 rw[hl] at c1
 have hs:=h.lt
 clear h
 refine ge ?_
 go_wp2_with (go_at_call 71;refine(HR.out _).mono ?_;rintro e w1 ⟨rfl,c,rfl⟩)
 go_ret2
 exact⟨rfl,(bzA.alloc (by simp) _)⟩
theorem owns_slice {w:World} {base:Nat} {e:TypeId} {size:Nat} {v:Value} {n:Nat} {xs:List Value} (h:w.ownsRow base e size v n xs): ∃a cap,v= .slice a n cap:=by
 rcases h.2 with ⟨rfl,rfl⟩|⟨g,cap,cur,rfl,_⟩
 ·simp
 simp
theorem info_parts {P:Program} {e:TypeId} {z:Value} {n m:Nat} (h:(P.info? e).map (fun i=>(i.zero,i.size,i.bytes))=some (some z,n,m)): ∃i,P.info? e=some i∧i.zero=some z∧i.size=n∧i.bytes=m:=by
 simp_all
theorem pone_one (x:Srv): ∀u∈pone x,u.oneCell'=true:=by
 intro u hu
 simp[pone] at hu
 rcases hu with rfl|rfl|rfl|rfl<;>rfl
theorem news_of {w1 W:World} {c:List Value} {t:TypeId} (h:W.heap=(w1.alloc (.cells c.toArray t)).heap): ∀j u,c[j]? =some u→W.cell? (((vA0 w1.heap.size):Addr).add j)=some u:=by
 intro j u hu
 have hb:W.heap[w1.heap.size]? =some (.cells c.toArray t):=by rw[h];exact(MapKept.heap_alloc w1 _).1
 grind[World.news_of_block]
theorem Pep.more (h:Pep w base s P v L) (x:Srv) (hx:x.ok) (hl:L.length<32) {w1:World} (hb:vBw w w1) {o:Obj}:
  ∀(W w2:World) (v1:Value),W.grownBy w2 v.ownBlock→w2.ownsRow base 184 4 v1 (L.length+1) (pcells L++pone x)→W.heap=(w1.alloc o).heap→W.os=w1.os→W.tape=w1.tape→W.output=w1.output→
  w2.cell? (vAt s 1)=some v∧w2.frozen? (vAt s 1)=false∧Pep (w2.setCell (vAt s 1) v1) base s P v1 (L++[x])∧Fr (fun k=>k=s∨some k=v.ownBlock) w (w2.setCell (vAt s 1) v1):=by
 intro W w2 v1 hg ho hW h1 h2 h3
 have hbW:vBw w W:=by
  have q:=hb.alloc hb.size o
  exact⟨h1.trans q.os,h2.trans q.tape,h3.trans q.output,by rw[hW];exact q.size,fun k hk=>by rw[hW];exact q.block k hk⟩
 have hpW:=h.below hbW
 have hsW:=hpW.lt
 have hbl:=hg.block s hsW (fun q=>hpW.ne q.symm)
 have hb2:=hbl.trans hpW.blk
 have hsz:=hg.size
 refine⟨by unfold World.cell?;grind,by unfold World.frozen?;grind,?_,?_⟩
 ·refine Pep.stored hb2 (by grind[Cb.pcells]) (Nat.le_trans hpW.bs hsz) ⟨h.f.p1,h.f.p2,?_,by grind⟩
  intro y hy
  rcases List.mem_append.1 hy with q|q
  ·exact h.f.all y q
  ·simp at q;rw[q];exact hx
 ·have f1:Fr (fun k=>k=s∨some k=v.ownBlock) W w2:=(Fr.of_grown hg).wide (by grind)
  exact((Fr.of_below' hbW).trans f1).setCell (a:=(vAt s 1)) (.inl rfl) _
theorem tstart {w:World} {s:Nat} {u v c0 c1:Value} {c:Array Value} {t:TypeId} (h:w.cell? (vA0 s)=some u∧w.cell? (vAt s 1)=some v):
  ((w.alloc (.cells #[c0,c1] t)).alloc (.cells c t)).drew.cell? (vA0 w.heap.size)=some c0∧((w.alloc (.cells #[c0,c1] t)).alloc (.cells c t)).drew.cell? (vAt w.heap.size 1)=some c1∧((w.alloc (.cells #[c0,c1] t)).alloc (.cells c t)).drew.cell? (vA0 s)=some u∧((w.alloc (.cells #[c0,c1] t)).alloc (.cells c t)).drew.cell? (vAt s 1)=some v∧vBw w ((w.alloc (.cells #[c0,c1] t)).alloc (.cells c t)).drew:=by
 have hb:Below (w.heap.size+1) (w.alloc (.cells #[c0,c1] t)) ((w.alloc (.cells #[c0,c1] t)).alloc (.cells c t)).drew:=(bzR.alloc (by simp) _).drew
 have hb0:vBw w (w.alloc (.cells #[c0,c1] t)):=bzA
 have hz:=hb0.trans (hb.mono (by omega))
 exact⟨(by simp),(by simp),
  (hz.cell (World.block_lt_of_cell? w _ h.1)).trans h.1,(hz.cell (World.block_lt_of_cell? w _ h.2)).trans h.2,hz⟩
theorem keepb {w w1:World} {p0 p1 p2 p3:Prop} (h:p0∧p1∧p2∧p3∧vBw w w1):vBw w w1:=h.2.2.2.2
theorem below_ad {w w1:World} {c:Array Value} {t:TypeId} (h:w1=(w.alloc (.cells c t)).drew):vBw w w1:=by rw[h];exact bzA.drew
theorem admit_load (h:Pep w base s P v L) (b p:Nat) (hr:rightB b p=true) (hl:L.length<32) (hq:P*232792560<sumOf L+asks ⟨b,p,0,0⟩):vQ 39 #[vPt s,vU6 (b:Int),vU6 (p:Int)] w (.tuple #[vI6 0,vI6 10]):=by
 have HR:=veil (fun w=>right_ok w b p)
 simp only[hr] at HR
 have hok:=(right_iff b p).1 hr
 have HK:=veil (fun w=>asks_ok w ⟨b,p,0,0⟩ hok)
 have HS:=veil fun w1 (hb:vBw w w1)=>sum_ok (h.below hb)
 obtain⟨a,cap,rfl,_,_⟩:=h.form
 have c0:=h.c0
 have c1:=h.c1
 have hs:=h.lt
 have n1: ¬(L.length:Int)=32:=by omega
 have n2: ¬L.length=32:=by omega
 have q1:=sum_le h.f.all
 have q2:=asks_le hok
 have q3:=h.f.p2
 have HI:Hid (w.cell? (vA0 s)=some (vU6 (P:Int))∧w.cell? (vAt s 1)=some (.slice a L.length cap)):=⟨c0,c1⟩
 generalize asks ⟨b,p,0,0⟩=q at HK hq q2
 generalize sumOf L=z at HS hq q1
 have e1:IntKind.u64.wrap ((z:Int)+(q:Int))=((z+q:Nat):Int):=by rw[wrapU _ (by omega) (by omega)];simp
 have e2:IntKind.u64.wrap ((P:Int)*232792560)=((P*232792560:Nat):Int):=by rw[wrapU _ (by omega) (by omega)];simp
 have e3:((P*232792560:Nat):Int)<((z+q:Nat):Int):=by omega
 clear h hr hq q1 q2 q3
 refine ge ?_
 go_wp2_with (go_at_call 71;refine(HR.out _).mono ?_;rintro e w1 ⟨rfl,c,rfl⟩)
 go_region_held3 (fun w'=>w'.cell? (vA0 w.heap.size)=some (vU6 (b:Int))∧w'.cell? (vAt w.heap.size 1)=some (vU6 (p:Int))∧w'.cell? (vA0 s)=some (vU6 (P:Int))∧w'.cell? (vAt s 1)=some (.slice a L.length cap)∧vBw w w')
  (first|exact tstart HI.out|exact keepc (by omega) hb)
  (first
   |(go_at_call 72;refine(HS.out _ (keepb (by assumption))).mono ?_;rintro e w1 ⟨rfl,hb⟩)
   |(go_at_call 73;refine(HK.out _).mono ?_;rintro e w1 ⟨rfl,c',hw⟩;have hb:=below_ad hw;clear hw))
 go_wp2
 go_ret2
 simp_all
end
def admC (P:Nat) (L:List Srv) (b p:Nat):Nat:=if rightB b p=false then 2 else if L.length=32 then 4 else if P*232792560<sumOf L+asks ⟨b,p,0,0⟩ then 10 else 0
def admN (P:Nat) (L:List Srv) (b p:Nat):Nat:=if admC P L b p=0 then L.length else 0
def admL (P:Nat) (L:List Srv) (b p:Nat):List Srv:=if admC P L b p=0 then L++[⟨b,p,0,0⟩] else L
def inL (L:List Srv) (i:Int):Bool:=decide (0≤i∧i<(L.length:Int))
def wakL (L:List Srv) (i:Int) (now:Nat):List Srv:=if inL L i∧(atL L i).d≤now then L.set i.toNat (fillS (atL L i) now) else L
def chgC (L:List Srv) (i:Int):Nat:=if inL L i then(if (atL L i).l=0 then 6 else 0) else 2
def chgB (L:List Srv) (i:Int):Bool:=decide (inL L i=true∧(atL L i).l=1)
def chgL (L:List Srv) (i:Int):List Srv:=if inL L i∧1≤(atL L i).l then L.set i.toNat (tickS (atL L i)) else L
theorem atL_some {L:List Srv} {k:Nat} {x:Srv} (hx:L[k]? =some x):atL L (k:Int)=x∧inL L (k:Int)=true:=by
 have hk:=(List.getElem?_eq_some_iff.1 hx).1
 unfold atL inL
 grind
theorem inL_cases (L:List Srv) (i:Int):inL L i=false∧ ¬(0≤i∧i<(L.length:Int))∨ ∃(k:Nat) (x:Srv),i=k∧L[k]? =some x:=by
 by_cases h:0≤i∧i<(L.length:Int)
 ·refine .inr ⟨i.toNat,L[i.toNat]'(by omega),by omega,List.getElem?_eq_getElem _⟩
 grind[Cb.inL]
section
variable {w:World} {base s P:Nat} {v:Value} {L:List Srv}
theorem charge_all (h:Pep w base s P v L) (i:Int):vCa 91 #[vPt s,vI6 i] w fun e w'=>e=vRt #[.bool (chgB L i),vI6 (chgC L i:Int)]∧Pep w' base s P v (chgL L i)∧Fr (fun k=>k=s∨some k=v.ownBlock) w w':=by
 unfold chgC chgB chgL
 rcases inL_cases L i with ⟨h0,h1⟩|⟨k,x,rfl,hx⟩
 ·grind[Cb.charge_range,Calls.mono,Fr.refl]
 ·obtain⟨e1,e2⟩:=atL_some hx
  rw[e1,e2]
  by_cases hd:x.l=0
  ·refine(charge_none h k x hx hd).mono ?_
   rintro e w' ⟨rfl,rfl⟩
   exact⟨by simp[hd],by exact mK,Fr.refl _ _⟩
  ·refine(charge_ok h k x hx (by omega)).mono ?_
   rintro e w' ⟨rfl,hp,hf⟩
   have g:1≤x.l:=by omega
   refine⟨?_,by simpa [g] using hp,hf.wide (by grind)⟩
   have q:(x.l-1==0)=decide (x.l=1):=by grind
   grind
theorem Pep.new (w:World) (P:Nat) (h1:1≤P) (h2:P≤64) (base:Nat) (hb:base≤w.heap.size):Pep (w.alloc (.cells #[vU6 (P:Int),.slice none 0 0] 155)) base w.heap.size P (.slice none 0 0) []:=
 ⟨(MapKept.heap_alloc w _).1,World.ownsRow_nil _ _ _ _,by simp;omega,h1,h2,by simp,by simp⟩
end
theorem below_a {w w':World} {c:Array Value} {t:TypeId} (h:w'=w.alloc (.cells c t)):vBw w w':=by rw[h];exact bzA
def dueB (now:Nat) (x:Srv):Bool:=x.l==0&&decide (x.d≤now)&& !(x.d==0)
def refS (now:Nat) (x:Srv):Srv:=if dueB now x then fillS x now else x
def fillN (L:List Srv) (now k:Nat):List Srv:=(L.take k).map (refS now)++L.drop k
def dueN (L:List Srv) (now:Nat):Nat→List Nat
 |0=>[]
 |k+1=>dueN L now k++(if ((L[k]?).map (dueB now)).getD false then [k] else [])
theorem fillN_zero (L:List Srv) (now:Nat):fillN L now 0=L:=by rfl
theorem fillN_len (L:List Srv) (now k:Nat):(fillN L now k).length=L.length:=by
 simp[fillN]
 omega
theorem fillN_all (L:List Srv) (now:Nat):fillN L now L.length=L.map (refS now):=by simp[fillN]
theorem fillN_at {L:List Srv} {now k i:Nat} (h:k≤i) (hk:k≤L.length):(fillN L now k)[i]? =L[i]? :=by
 unfold fillN
 grind
theorem fillN_one {L:List Srv} {now k:Nat} {x:Srv} (hx:L[k]? =some x):fillN L now (k+1)=(fillN L now k).set k (refS now x):=by
 obtain⟨hk,rfl⟩:=List.getElem?_eq_some_iff.1 hx
 grind[Cb.fillN,List.set_append_right,List.drop_eq_getElem_cons,List.take_succ_eq_append_getElem]
theorem fillN_no {L:List Srv} {now k:Nat} {x:Srv} (hx:L[k]? =some x) (hd:dueB now x=false):fillN L now (k+1)=fillN L now k:=by
 obtain⟨hk,rfl⟩:=List.getElem?_eq_some_iff.1 hx
 rw[fillN_one hx,show refS now L[k]=L[k] from by simp[refS,hd]]
 refine List.ext_getElem? fun i=> ?_
 by_cases q:k=i
 ·subst q
  rw[List.getElem?_set_self (by rw[fillN_len];exact hk),fillN_at lzr (by omega),List.getElem?_eq_getElem hk]
 grind
theorem fillN_yes {L:List Srv} {now k:Nat} {x:Srv} (hx:L[k]? =some x) (hd:dueB now x=true):fillN L now (k+1)=(fillN L now k).set k (fillS x now):=by
 rw[fillN_one hx]
 simp[refS,hd]
theorem dueN_no {L:List Srv} {now k:Nat} {x:Srv} (hx:L[k]? =some x) (hd:dueB now x=false):dueN L now (k+1)=dueN L now k:=by simp[dueN,hx,hd]
theorem dueN_yes {L:List Srv} {now k:Nat} {x:Srv} (hx:L[k]? =some x) (hd:dueB now x=true):dueN L now (k+1)=dueN L now k++[k]:=by simp[dueN,hx,hd]
theorem dueN_len (L:List Srv) (now:Nat): ∀k,(dueN L now k).length≤k
 |0=>lzr
 |k+1=>by
  have:=dueN_len L now k
  grind[Cb.dueN]
def intsN (l:List Nat):List Value:=l.map (fun (n:Nat)=>Value.int .i64 (n:Int))
theorem due_in (nn:Nat) (hn:1≤nn) (l B1 B2 s cap now:Nat) (a:Option Addr) (L:List Srv) (hlen:L.length≤32) (J:Nat→World→Prop)
  (hA: ∀k W o,J k W→J k (World.alloc W o))
  (hR: ∀k W,J k W→Boxed W B1 94 (vPt s)∧Boxed W B2 25 (vU6 (now:Int))∧(∀i x,k≤i→L[i]? =some x→ ∃g,a=some (vA0 g)∧W.cell? (vAt g (i*4))=some (vU6 (x.b:Int))∧W.cell? (vAt g (i*4+1))=some (vU6 (x.p:Int))∧W.cell? (vAt g (i*4+2))=some (vU6 (x.l:Int))∧W.cell? (vAt g (i*4+3))=some (vU6 (x.d:Int))))
  (hN: ∀k x W,L[k]? =some x→dueB now x=false→J k W→J (k+1) W)
  (hY: ∀k x W,L[k]? =some x→dueB now x=true→J k W→YieldAt Fence.wide (nn-1) Tryz.prog l #[vI6 (k:Int)] W fun e W'=>e= .returned (.bool true)∧J (k+1) W')
  (W:World) (hsl:W.cell? (vAt s 1)=some (.slice a L.length cap)) (h0:J 0 W):
  CallsIn Fence.wide nn Tryz.prog 142 #[.func (.yield l) #[] #[],vPt B1,vPt B2] W fun e W'=>(∃v,e= .returned v)∧J L.length W':=by
 have HR:=veil hR
 have H0:=veil h0
 have HY:=veil hY
 have HN:=veil hN
 have HA:=veil hA
 obtain⟨hb1,_,_⟩:=hR 0 W h0
 have e1:=hb1.cell
 clear hb1
 clear hR h0 hY hA hN
 refine callsIn_of_wp Tryz.func142 rfl trivial ?_ rfl
 simp only[Tryz.ntmps142,List.size_toArray,List.length_cons,List.length_nil,Nat.reduceAdd,Nat.reduceSub,Array.replicate_succ,Array.replicate_zero,List.push_toArray,List.append_toArray,List.nil_append,List.cons_append]
 gi_wp2
 gi_loopw [11] (fun p wr=> ∃k:Nat,k≤L.length∧p=vI6 (k:Int)∧J k wr) (fun p _=>L.length-(intOf p).toNat)
 case atStart=>exact⟨0,by omega,rfl,H0.out⟩
 case round=>
  obtain⟨k,hk,rfl,hJ⟩:=hrel
  by_cases hkn:k<L.length
  ·have hkn':(k:Int)<(L.length:Int):=by omega
   obtain⟨x,hx⟩: ∃x,L[k]? =some x:=⟨_,List.getElem?_eq_getElem hkn⟩
   obtain⟨hb1,hb2,hc⟩:=HR.out k wr hJ
   obtain⟨g,rfl,y0,y1,y2,y3⟩:=hc k x lzr hx
   have e2:=hb2.cell
   have hlt:=hb2.lt
   have n1: ¬B2=wr.heap.size:=by omega
   obtain⟨b,p,xl,d⟩:=x
   dsimp only at y0 y1 y2 y3
   have HJ0:=veil hJ
   have HX:=veil hx
   clear hJ hb1 hb2 hc hx
   by_cases hl:xl=0
   ·subst hl
    by_cases hd:d≤now
    ·by_cases hz:d=0
     ·subst hz
      have HO:=veil (fun w=>(callsIn_wide (n:=nn-1)).2 (over_ok w ⟨b,p,0,0⟩ now))
      have HSL:=veil (fun w=>(callsIn_wide (n:=nn-1)).2 (sleeps_ok w ⟨b,p,0,0⟩))
      simp only[decide_eq_true hd] at HO
      simp only[Int.natCast_zero,beq_self_eq_true] at HO HSL y2 y3
      have HJ1:=veil (HA.out _ _ (.cells #[vU6 (b:Int),vU6 (p:Int),vU6 0,vU6 0] 184) HJ0.out)
      have HNX:=veil fun W=>HN.out k _ W HX.out (by rfl)
      gi_wp2_with (first|(refine⟨trivial,?_⟩;gi_at_call 143;refine(HO.out _).mono ?_;rintro e w1 ⟨rfl,c,rfl⟩)|(refine⟨trivial,?_⟩;gi_at_call 144;refine(HSL.out _).mono ?_;rintro e w2 ⟨rfl,c2,rfl⟩))
      refine⟨fun _ h=>(by cases h),?_⟩
      gi_wp2
      go_roundw
      case rel=>exact⟨k+1,by omega,by go_num,HNX.out _ (HA.out _ _ _ (HA.out _ _ _ HJ1.out))⟩
      case measure=>simp[intOf];omega
     ·have hz2:(d==0)=false:=by grind
      have hdue:dueB now ⟨b,p,0,d⟩=true:=by simp[dueB,hd,hz]
      have HO:=veil (fun w=>(callsIn_wide (n:=nn-1)).2 (over_ok w ⟨b,p,0,d⟩ now))
      have HSL:=veil (fun w=>(callsIn_wide (n:=nn-1)).2 (sleeps_ok w ⟨b,p,0,d⟩))
      simp only[decide_eq_true hd] at HO
      simp only[hz2] at HSL
      simp only[Int.natCast_zero] at HO HSL y2
      have HJ1:=veil (HA.out _ _ (.cells #[vU6 (b:Int),vU6 (p:Int),vU6 0,vU6 (d:Int)] 184) HJ0.out)
      have HYY:=veil (fun W=>HY.out k _ W HX.out hdue)
      clear HN hdue
      gi_wp2_with (first|(refine⟨trivial,?_⟩;gi_at_call 143;refine(HO.out _).mono ?_;rintro e w1 ⟨rfl,c,rfl⟩)|(refine⟨trivial,?_⟩;gi_at_call 144;refine(HSL.out _).mono ?_;rintro e w2 ⟨rfl,c2,rfl⟩))
      obtain⟨fn,tmps,assign,body,hy,hR⟩:=HYY.out _ (HA.out _ _ (.cells c2 184) (HA.out _ _ (.cells c 184) HJ1.out))
      rw[hy,Oper.uponIn_round]
      refine⟨fun _=>hn,hR.mono ?_⟩
      rintro e W3 ⟨rfl,hJ3⟩
      have HJ3:=veil hJ3
      clear hJ3 hy hR HYY HY
      gi_wp2
      go_roundw
      case rel=>exact⟨k+1,by omega,by go_num,HJ3.out⟩
      case measure=>simp[intOf];omega
    ·have HO:=veil (fun w=>(callsIn_wide (n:=nn-1)).2 (over_ok w ⟨b,p,0,d⟩ now))
     simp only[decide_eq_false hd] at HO
     simp only[Int.natCast_zero] at HO y2
     have HJ1:=veil (HA.out _ _ (.cells #[vU6 (b:Int),vU6 (p:Int),vU6 0,vU6 (d:Int)] 184) HJ0.out)
     have HNX:=veil fun W=>HN.out k _ W HX.out (by simp[dueB,hd])
     gi_wp2_with (first|(refine⟨trivial,?_⟩;gi_at_call 143;refine(HO.out _).mono ?_;rintro e w1 ⟨rfl,c,rfl⟩))
     refine⟨trivial,?_⟩
     gi_wp2
     refine⟨fun _ h=>(by cases h),?_⟩
     gi_wp2
     go_roundw
     case rel=>exact⟨k+1,by omega,by go_num,HNX.out _ (HA.out _ _ _ HJ1.out)⟩
     case measure=>simp[intOf];omega
   ·have hl2:((xl:Int)==0)=false:=by grind
    have HJ1:=veil (HA.out _ _ (.cells #[vU6 (b:Int),vU6 (p:Int),vU6 (xl:Int),vU6 (d:Int)] 184) HJ0.out)
    have HNX:=veil fun W=>HN.out k _ W HX.out (by simp[dueB,hl])
    gi_wp2
    refine⟨trivial,?_⟩
    gi_wp2
    refine⟨trivial,?_⟩
    gi_wp2
    refine⟨fun _ h=>(by cases h),?_⟩
    gi_wp2
    go_roundw
    case rel=>exact⟨k+1,by omega,by go_num,HNX.out _ HJ1.out⟩
    case measure=>simp[intOf];omega
  ·obtain rfl:k=L.length:=by omega
   have HJ:=veil hJ
   clear hJ
   gi_wp2
   go_end0
   exact⟨⟨_,rfl⟩,HJ.out⟩
theorem range_places {P:Program} {n:Nat} {g:Operand} {p:Tmp} {assign body:Code} {Q:Exit→Act→World→Prop} {a:Act} {w:World} {gf:Nat} {lb:Array Value}
  (hg:a.eval g= .func (.func gf) #[] lb) (eg: ∀args w,(callFunc gf args).run P w= .ok (.enter gf args) w)
  (J:Nat→World→Prop) (N Y:Nat→Prop) (enc:Nat→Value) (m:Nat) (a₁:Nat→Act)
  (hAl: ∀k W o,J k W→J k (World.alloc W o))
  (hPu: ∀k W l o o',w.heap.size≤l→W.heap[l]? =some o→o.isCells=false→J k W→J k (W.putObj l o'))
  (hNo: ∀k W,N k→J k W→J (k+1) W) (h0:J 0 w)
  (hit: ∀(l:Nat) (J':Nat→World→Prop) (W:World),(∀k W,J' k W→J k W)→(∀k W o,J' k W→J' k (World.alloc W o))→(∀k W,N k→J' k W→J' (k+1) W)→
   (∀k W,Y k→J' k W→YieldAt Fence.wide (n-1-1) P l #[enc k] W fun e W'=>e= .returned (.bool true)∧J' (k+1) W')→J' 0 W→
   CallsIn Fence.wide (n-1) P gf (#[.func (.yield l) #[] #[]]++lb) W fun e W'=>(∃v,e= .returned v)∧J' m W')
  (has: ∀(l k:Nat) (W:World) (K:Act→World→Prop),K (a₁ k) W→assign.wpIn (Fence.wide.inRound l) (n-1-1) P (Exit.then K (fun _ _ _=>False)) {tmps:=a.tmps.setIfInBounds p (enc k),defers:=[]} W)
  (hbo: ∀(l k:Nat) (W:World),Y k→J k W→body.wpIn (Fence.wide.inRound l) (n-1-1) P (fun e _ W'=>e= .normal∧KeepsFrom w.heap.size W W'∧J (k+1) W') (a₁ k) W)
  (hdo: ∀(D:Nat) (W:World),w.heap.size≤D→J m W→W.heap[D]? =some (.deferred (some []))→Q .normal {a with defers:={target:= .collected D,args:= #[]}::a.defers} W):
  (Code.rangeFunc g #[p] assign body).wpIn Fence.wide n P Q a w:=by
 refine wpIn_rangeFunc fun fn hfn=> ?_
 have hne:w.heap.size+1≠w.heap.size:=by omega
 obtain⟨r,hr⟩: ∃r:Loop,r={state:= .ready,pending:=none,fn,tmps:=a.tmps,params:= #[p],assign,body,defers:=w.heap.size}:=⟨_,rfl⟩
 have hk0:Kept (w.heap.size+1) w.heap.size r ((w.alloc (.deferred (some []))).alloc (.loop r)):=by
  refine⟨?_,(Below.heap_alloc _ _ _ (by simp)).trans (World.alloc_heap_new w _)⟩
  have:=World.alloc_heap_new (w.alloc (.deferred (some []))) (.loop r)
  simp_all
 have hready:r.state= .ready:=by rw[hr]
 refine⟨w.heap.size+1,[{target:= .collected w.heap.size,args:= #[]}],(w.alloc (.deferred (some []))).alloc (.loop r),{target:= .fn (.func gf) lb,args:= #[.func (.yield (w.heap.size+1)) #[] #[]]},(w.alloc (.deferred (some []))).alloc (.loop r),gf,#[.func (.yield (w.heap.size+1)) #[] #[]]++lb,(w.alloc (.deferred (some []))).alloc (.loop r),?_,?_,fun _ _=>trivial,?_,fun h=>(by cases h),?_⟩
 ·rw[hr];exact run_enterLoop_outer _ _ _ _ _
 ·simp only[resolve,hg]
  simp[go_sem]
 ·simp[invoke,go_sem,eg]
 ·refine(hit (w.heap.size+1) (fun k W=>J k W∧Kept (w.heap.size+1) w.heap.size r W) _ (by grind) (fun k W o h=>⟨hAl k W o h.1,h.2.alloc o⟩) (by grind) ?_ (by grind)).mono ?_
  ·rintro k W hY ⟨hJ,hK⟩
   have hy:=run_yield (P:=P) (args:= #[enc k]) hK.1 (by grind)
   refine⟨_,_,_,_,hy,roundIn_of_wpIn (by rw[hr];exact hfn) ?_⟩
   have e1:r.assign=assign:=by rw[hr]
   have e2:r.body=body:=by rw[hr]
   have e3:((r.params.zip #[enc k]).foldl (fun tmps (t,a)=>tmps.setIfInBounds t a) r.tmps)=a.tmps.setIfInBounds p (enc k):=by simp_all
   rw[e1,e2,e3]
   refine has _ k W _ ?_
   refine⟨_,run_beginRound hK.1 hready,?_⟩
   have hJ1:J k (W.putObj (w.heap.size+1) (.loop {r with state:= .busy})):=hPu k W _ _ _ (by omega) hK.1 rfl hJ
   have hK1:=hK.put hne {r with state:= .busy}
   refine wpIn_mono (hbo _ k _ hY hJ1) ?_
   rintro e a3 W3 ⟨rfl,hk3,hJ3⟩
   have hK3:=hK1.keeps (by omega) lzr hk3
   refine⟨_,_,run_endRound none hK3.1,rfl,hPu (k+1) W3 _ _ _ (by omega) hK3.1 rfl hJ3,?_⟩
   grind[Kept.put]
  ·rintro e W2 ⟨⟨v,rfl⟩,hJ,hK⟩
   refine⟨none,_,?_,hdo _ _ lzr (hPu m W2 _ _ (.loop {r with state:= .exhausted}) (by omega) hK.1 rfl hJ) (hK.put hne _).2⟩
   have:=run_endLoop (P:=P) hK.1 (by grind)
   grind
end Go.Proofs.YtnmhcgpnhlhcgaaGreatDoor.Cb
namespace Go.Proofs.YtnmhcgpnhlhcgaaGreatDoor.Cb
open Go.RowKit Go.Lib Go.Shelf
attribute [local go_sem] Oper.semAt_some
theorem due_fn (nn s now:Nat) (w:World):CallsIn Fence.wide nn Tryz.prog 92 #[vPt s,vU6 (now:Int)] w fun e w'=>e= .returned (.func (.func 142) #[] #[vPt w.heap.size,vPt (w.heap.size+1)])∧w'=(w.alloc (.cells #[vPt s] 94)).alloc (.cells #[vU6 (now:Int)] 25):=by
 refine callsIn_wide.2 ?_
 refine ge ?_
 go_wp2
 go_ret
 simp
theorem cell_one_new (w:World) (v:Value) (t:TypeId): ∀j u,[v][j]? =some u→(w.alloc (.cells #[v] t)).cell? (((vA0 w.heap.size):Addr).add j)=some u:=by
 intro j u hu
 have hadd:((vA0 w.heap.size):Addr).add j=(vAt w.heap.size j):=by unfold Addr.add;grind
 simp_all
theorem keeps_below {W W':World} (hb:vBw W W'):KeepsOthers W W':=⟨hb.size,fun k o hk _=>(hb.block k (Array.getElem?_eq_some_iff.1 hk).1).trans hk⟩
structure Rf (w W:World) (base s P:Nat) (v:Value) (now q0 q1 q2 q3 q4 n5:Nat) (M:List Srv) (xs:List Nat) (lv:Value):Prop where
 pep:Pep W base s P v M
 b0:Boxed W q0 94 (vPt s)
 b1:Boxed W q1 25 (vU6 (now:Int))
 b2:Boxed W q2 123 lv
 b3:Boxed W q3 94 (vPt s)
 b4:Boxed W q4 25 (vU6 (now:Int))
 row:W.ownsRow n5 3 1 lv xs.length (intsN xs)
 sz:n5≤W.heap.size
 fr:Fr (fun b=>some b=v.ownBlock) w W
section
variable {w W W':World} {base s P:Nat} {v:Value} {now q0 q1 q2 q3 q4 n5:Nat} {M:List Srv} {xs:List Nat} {lv:Value}
theorem Rf.below (h:Rf w W base s P v now q0 q1 q2 q3 q4 n5 M xs lv) (hb:vBw W W'):Rf w W' base s P v now q0 q1 q2 q3 q4 n5 M xs lv:=
 ⟨h.pep.below hb,(hb.block _ h.b0.lt).trans h.b0,(hb.block _ h.b1.lt).trans h.b1,(hb.block _ h.b2.lt).trans h.b2,(hb.block _ h.b3.lt).trans h.b3,(hb.block _ h.b4.lt).trans h.b4,ownsRow_far h.row (fun b hk=>hb.block b (ownsRow_blk h.row hk).2.1),Nat.le_trans h.sz hb.size,h.fr.trans (Fr.of_below' hb)⟩
theorem Rf.alloc (h:Rf w W base s P v now q0 q1 q2 q3 q4 n5 M xs lv) (o:Obj):Rf w (W.alloc o) base s P v now q0 q1 q2 q3 q4 n5 M xs lv:=h.below bzA
theorem boxed_put {W:World} {B l:Nat} {t:TypeId} {u:Value} {o o':Obj} (h:Boxed W B t u) (hl:W.heap[l]? =some o) (ho:o.isCells=false):Boxed (W.putObj l o') B t u:=by
 refine(World.putObj_heap_other ?_).trans h
 rintro rfl
 rw[show W.heap[B]? =_ from h] at hl
 cases hl
 cases ho
theorem boxed_set {W:World} {B:Nat} {t:TypeId} {u:Value} (h:Boxed W B t u) {a:Addr} (hne:B≠a.block) (x:Value):Boxed (W.setCell a x) B t u:=(Below.heap_setCell _ _ _ _ hne).trans h
theorem Rf.put (h:Rf w W base s P v now q0 q1 q2 q3 q4 n5 M xs lv) (hw:w.heap.size≤n5) {l:Nat} {o:Obj} (o':Obj) (hn:n5≤l) (hl:W.heap[l]? =some o) (ho:o.isCells=false):Rf w (W.putObj l o') base s P v now q0 q1 q2 q3 q4 n5 M xs lv:=by
 have hne: ∀{b:Nat} {c:Array Value} {t:TypeId} {z:Nat×Nat},W.heap[b]? =some (.cells c t z)→(W.putObj l o').heap[b]? =W.heap[b]? :=fun {b c t z} hb=>World.putObj_heap_other (by
  rintro rfl
  rw[hb] at hl
  cases hl
  cases ho)
 refine⟨h.pep.kept (by simp) (hne h.pep.blk) (fun b hb=> ?_),boxed_put h.b0 hl ho,boxed_put h.b1 hl ho,boxed_put h.b2 hl ho,boxed_put h.b3 hl ho,boxed_put h.b4 hl ho,ownsRow_far h.row (fun b hb=> ?_),by simpa using h.sz,?_⟩
 ·obtain⟨_,_,cur,hc⟩:=ownsRow_blk h.pep.own hb
  grind
 ·obtain⟨_,_,cur,hc⟩:=ownsRow_blk h.row hb
  grind
 ·exact⟨h.fr.os,h.fr.tape,h.fr.output,by simpa using h.fr.size,fun b hb hS=>(World.putObj_heap_other (by omega)).trans (h.fr.block b hb hS)⟩
theorem Rf.fill (h:Rf w W base s P v now q0 q1 q2 q3 q4 n5 M xs lv) {g cap k:Nat} (hv:v= .slice (some (vA0 g)) M.length cap) (hk:k<M.length) (x:Srv) (hx:x.ok) (hg:g<w.heap.size) (hq:w.heap.size≤q0∧w.heap.size≤q1∧w.heap.size≤q2∧w.heap.size≤q3∧w.heap.size≤q4) (hw:w.heap.size≤n5):
  Rf w ((((W.setCell (vAt g (k*4)) (vU6 (x.b:Int))).setCell (vAt g (k*4+1)) (vU6 (x.p:Int))).setCell (vAt g (k*4+2)) (vU6 (x.l:Int))).setCell (vAt g (k*4+3)) (vU6 (x.d:Int))) base s P v now q0 q1 q2 q3 q4 n5 (M.set k x) xs lv:=by
 obtain⟨h0,h1,h2,h3,h4⟩:=hq
 have bs: ∀{B:Nat} {t:TypeId} {u:Value} (u0 u1 u2 u3:Value),w.heap.size≤B→Boxed W B t u→Boxed ((((W.setCell (vAt g (k*4)) u0).setCell (vAt g (k*4+1)) u1).setCell (vAt g (k*4+2)) u2).setCell (vAt g (k*4+3)) u3) B t u:=
  fun u0 u1 u2 u3 hB hb=>boxed_set (boxed_set (boxed_set (boxed_set hb (by grind) _) (by grind) _) (by grind) _) (by grind) _
 refine⟨h.pep.put hv hk x hx,bs _ _ _ _ h0 h.b0,bs _ _ _ _ h1 h.b1,bs _ _ _ _ h2 h.b2,bs _ _ _ _ h3 h.b3,bs _ _ _ _ h4 h.b4,?_,by simpa using h.sz,?_⟩
 ·grind[RowKit.ownsRow_setCell_below,Cb.Rf.row]
 ·exact(((h.fr.setCell (a:=(vAt g (k*4))) (by rw[hv];rfl) _).setCell (a:=(vAt g (k*4+1))) (by rw[hv];rfl) _).setCell (a:=(vAt g (k*4+2))) (by rw[hv];rfl) _).setCell (a:=(vAt g (k*4+3))) (by rw[hv];rfl) _
theorem Rf.more (h:Rf w W base s P v now q0 q1 q2 q3 q4 n5 M xs lv) {w1:World} {k:Nat} {v':Value} {tmp:Obj} (hs:s<w.heap.size) (hg: ∀b,v.ownBlock=some b→b<w.heap.size)
  (hq:w.heap.size≤q0∧w.heap.size≤q1∧w.heap.size≤q2∧w.heap.size≤q3∧w.heap.size≤q4) (hq5:q0<n5∧q1<n5∧q2<n5∧q3<n5∧q4<n5) (hne:q0≠q2∧q1≠q2∧q3≠q2∧q4≠q2)
  (hown:w1.ownsRow n5 3 1 v' (xs.length+1) (intsN xs++[vI6 (k:Int)])) (hgrow:(W.alloc tmp).grownBy w1 lv.ownBlock):
  Boxed w1 q2 123 lv∧Rf w (w1.setCell (vA0 q2) v') base s P v now q0 q1 q2 q3 q4 n5 M (xs++[k]) v'∧KeepsOthers W (w1.setCell (vA0 q2) v'):=by
 obtain⟨h0,h1,h2,h3,h4⟩:=hq
 obtain⟨p0,p1,p2,p3,p4⟩:=hq5
 obtain⟨e0,e1,e3,e4⟩:=hne
 have hb:=((Below.refl n5 W).alloc h.sz tmp).grown hgrow (by have:=h.sz;simp;omega) (fun j ej=>(h.row.lt j ej).1)
 have hs5:=Nat.le_trans h.sz hb.size
 have bx: ∀{B:Nat} {t:TypeId} {u:Value},B<n5→Boxed W B t u→Boxed w1 B t u:=fun hB hx=>(hb.block _ hB).trans hx
 have hpw:=h.pep.kept hb.size (hb.block s (by omega)) (fun b hk=>hb.block b (by grind))
 refine⟨bx p2 h.b2,⟨hpw.kept (by simp) (Below.heap_setCell _ _ _ _ (by grind)) (fun b hk=>Below.heap_setCell _ _ _ _ (by grind)),boxed_set (bx p0 h.b0) e0 _,boxed_set (bx p1 h.b1) e1 _,(bx p2 h.b2).set v',boxed_set (bx p3 h.b3) e3 _,boxed_set (bx p4 h.b4) e4 _,?_,by simp_all,?_⟩,?_⟩
 ·have:intsN (xs++[k])=intsN xs++[vI6 (k:Int)]:=by simp[intsN]
  grind[RowKit.ownsRow_setCell_below]
 ·have hf:Fr (fun b=>some b=v.ownBlock) w w1:=⟨hb.os.trans h.fr.os,hb.tape.trans h.fr.tape,hb.output.trans h.fr.output,(by omega),fun b hbw hS=>(hb.block b (by omega)).trans (h.fr.block b hbw hS)⟩
  exact⟨hf.os,hf.tape,hf.output,by simpa using hf.size,fun b hbw hS=>(Below.heap_setCell _ _ _ _ (by grind)).trans (hf.block b hbw hS)⟩
 ·refine((KeepsOthers.alloc W tmp).trans (KeepsOthers.of_grownBy hgrow fun j o ej hj=> ?_)).trans (KeepsOthers.setCell _ _ _)
  obtain⟨_,_,cur,hc⟩:=ownsRow_blk (h.row.alloc tmp) ej
  rw[hc] at hj
  cases hj
  rfl
end
theorem refill_in {w : World} {base s P : Nat} {v : Value} {L : List Srv} (h : Pep w base s P v L) (now : Nat) (hn : now < 18446744073709551616) :
  CallsIn Fence.wide 4 Tryz.prog 49 #[vPt s, vU6 (now : Int)] w fun e w' => ∃ lv, e = .returned lv ∧ w'.ownsRow w.heap.size 3 1 lv (dueN L now L.length).length (intsN (dueN L now L.length)) ∧ Pep w' base s P v (L.map (refS now)) ∧ Fr (fun b => some b = v.ownBlock) w w' := by
 obtain ⟨i0, hi, hz0, hz1, hz2⟩ := info_parts infoInt
 obtain ⟨a, cap, hv, hc1, hc2⟩ := h.form
 have hlen := h.f.len
 have hs := h.lt
 have hvw := fun b (hb : v.ownBlock = some b) => (ownsRow_blk h.own hb).2.1
 refine callsIn_of_wp_marks Tryz.func49 rfl trivial ?_ rfl
 simp only [Tryz.ntmps49, List.size_toArray, List.length_cons, List.length_nil, Nat.reduceAdd, Nat.reduceSub, Array.replicate_succ, Array.replicate_zero, List.push_toArray, List.append_toArray, List.nil_append, List.cons_append]
 gi_wp2_with (refine ⟨trivial, ?_⟩; gi_at_call 92; refine (due_fn _ s now _).mono ?_; rintro e w' ⟨rfl, rfl⟩)
 obtain ⟨W0, hW0⟩ : ∃ W0, (((((w.alloc (.cells #[vPt s] 94)).alloc (.cells #[vU6 (now : Int)] 25)).alloc (.cells #[.slice none 0 0] 123)).alloc (.cells #[vPt s] 94)).alloc (.cells #[vU6 (now : Int)] 25)) = W0 := ⟨_, rfl⟩
 have hR0 : Rf w W0 base s P v now w.heap.size (w.heap.size + 1) (w.heap.size + 1 + 1) (w.heap.size + 1 + 1 + 1) (w.heap.size + 1 + 1 + 1 + 1) W0.heap.size (fillN L now 0) (dueN L now 0) (.slice none 0 0) := by
  have hbw : vBw w W0 := by rw [← hW0]; exact (((((Below.refl _ w).alloc lzr _).alloc (by simp) _).alloc (by simp; omega) _).alloc (by simp; omega) _).alloc (by simp; omega) _
  have x0 := Boxed.new w 94 (vPt s)
  have x1 := Boxed.new (w.alloc (.cells #[vPt s] 94)) 25 (vU6 (now : Int))
  have x2 := Boxed.new ((w.alloc (.cells #[vPt s] 94)).alloc (.cells #[vU6 (now : Int)] 25)) 123 (.slice none 0 0)
  have x3 := Boxed.new (((w.alloc (.cells #[vPt s] 94)).alloc (.cells #[vU6 (now : Int)] 25)).alloc (.cells #[.slice none 0 0] 123)) 94 (vPt s)
  have x4 := Boxed.new ((((w.alloc (.cells #[vPt s] 94)).alloc (.cells #[vU6 (now : Int)] 25)).alloc (.cells #[.slice none 0 0] 123)).alloc (.cells #[vPt s] 94)) 25 (vU6 (now : Int))
  simp only [World.size_alloc] at x1 x2 x3 x4
  rw [fillN_zero L now |>.symm] at h
  refine ⟨h.below hbw, ?_, ?_, ?_, ?_, ?_, World.ownsRow_nil _ _ _ _, lzr, Fr.of_below' hbw⟩
  ·rw [← hW0]; exact (((x0.alloc _).alloc _).alloc _).alloc _
  ·rw [← hW0]; exact ((x1.alloc _).alloc _).alloc _
  ·rw [← hW0]; exact (x2.alloc _).alloc _
  ·rw [← hW0]; exact x3.alloc _
  ·rw [← hW0]; exact x4
 have hs0 : W0.heap.size = w.heap.size + 1 + 1 + 1 + 1 + 1 := by rw [← hW0]; simp
 rw [hW0]
 refine range_places (gf := 142) (lb := #[vPt (w.heap.size + 1 + 1 + 1), vPt (w.heap.size + 1 + 1 + 1 + 1)]) rfl (enters_of Tryz.func142 (by rfl) rfl)
  (fun k W => ∃ lv, Rf w W base s P v now w.heap.size (w.heap.size + 1) (w.heap.size + 1 + 1) (w.heap.size + 1 + 1 + 1) (w.heap.size + 1 + 1 + 1 + 1) W0.heap.size (fillN L now k) (dueN L now k) lv)
  (fun k => ∃ x, L[k]? = some x ∧ dueB now x = false) (fun k => ∃ x, L[k]? = some x ∧ dueB now x = true) (fun k => vI6 (k : Int)) L.length
  (fun k => { tmps := #[vPt s, vU6 (now : Int), vPt w.heap.size, vPt (w.heap.size + 1), .slice none 0 0, vPt (w.heap.size + 1 + 1), vI6 (k : Int), vPt s, .bool false, vPt s, vU6 (now : Int), .func (.func 142) #[] #[vPt (w.heap.size + 1 + 1 + 1), vPt (w.heap.size + 1 + 1 + 1 + 1)], vI6 (k : Int), undef, undef, undef, undef, undef, undef, undef, undef, undef, undef, undef, undef, undef, undef, undef, undef, undef, undef, undef, undef], defers := [] })
  (fun k W o ⟨lv, hh⟩ => ⟨lv, hh.alloc o⟩) (fun k W l o o' hl ho hc ⟨lv, hh⟩ => ⟨lv, hh.put (by omega) o' hl ho hc⟩) ?no ⟨_, hR0⟩ ?iter ?assign ?body ?done
 case no =>
  rintro k W ⟨x, hx, hd⟩ ⟨lv, hh⟩
  refine ⟨lv, ?_⟩
  have e1 := fillN_no hx hd
  have e2 := dueN_no hx hd
  exact ⟨by rw [e1]; exact hh.pep, hh.b0, hh.b1, hh.b2, hh.b3, hh.b4, by rw [e2]; exact hh.row, hh.sz, hh.fr⟩
 case iter =>
  intro l J' W hJ hA hN hY h0
  obtain ⟨lv0, hh0⟩ := hJ 0 W h0
  refine due_in 3 (by decide) l (w.heap.size + 1 + 1 + 1) (w.heap.size + 1 + 1 + 1 + 1) s cap now a L hlen J' hA (fun k W hk => ?_) (fun k x W hx hd hk => hN k W ⟨x, hx, hd⟩ hk) (fun k x W hx hd hk => hY k W ⟨x, hx, hd⟩ hk) W (by rw [← hv]; exact hh0.pep.c1) h0
  obtain ⟨lv, hh⟩ := hJ k W hk
  refine ⟨hh.b3, hh.b4, fun i x hki hx => ?_⟩
  have hil := (List.getElem?_eq_some_iff.1 hx).1
  obtain ⟨g, cap', hv', _, _, _, _, _, hcs⟩ := hh.pep.cells (by rw [fillN_len]; omega)
  rw [hv] at hv'
  simp at hv'
  exact ⟨g, hv'.1, hcs i x (by rw [fillN_at hki (by omega)]; exact hx)⟩
 case assign =>
  intro l k W K hK
  gi_wp2
  simpa using hK
 case body =>
  rintro l k W ⟨x, hx, hd⟩ ⟨lv, hh⟩
  have hkl := (List.getElem?_eq_some_iff.1 hx).1
  have hxM : (fillN L now k)[k]? = some x := by rw [fillN_at lzr (by omega)]; exact hx
  have hok := hh.pep.f.all x (List.mem_of_getElem? hxM)
  have hlM := fillN_len L now k
  obtain ⟨g, cap', hv', _, _, hgW, hgs, hfz, hcs⟩ := hh.pep.cells (by omega)
  obtain ⟨y0, y1, y2, y3⟩ := hcs k x hxM
  have hgw := hvw g (by rw [hv']; rfl)
  have c1 := hh.pep.c1
  have HV := veil hv'
  rw [hv'] at c1
  have hkl' : (k : Int) < ((fillN L now k).length : Int) := by omega
  generalize hMM : fillN L now k = M at *
  have a0 := hh.b0.cell
  have a1 := hh.b1.cell
  have HFL := veil (fun w => filled_ok w x now hok hn)
  have HH := veil hh
  have HX := veil (fill_ok hok now)
  have HKM : Hid (k < M.length) := by unfold Hid; omega
  have HLM := veil hlM
  have HMM := veil hMM
  have HXL := veil hx
  have HD := veil hd
  clear hh hcs hfz hok hlM hMM hd hx hc1 hc2 hv' hv hR0 hW0 h hkl
  gi_wp2
  refine region_round (fun w' => w'.cell? (vA0 w.heap.size) = some (vPt s) ∧ w'.cell? (vA0 (w.heap.size + 1)) = some (vU6 (now : Int)) ∧ w'.cell? (vAt s 1) = some (.slice (some (vA0 g)) M.length cap')) (by rfl) (by kernel_rfl) (by rintro ⟨a, w, h⟩; exact absurd (show Exit.outgrown = Exit.normal from h.1) (by simp)) ⟨a0, a1, c1⟩ (fun hHeld => ?_)
  refine st ?_
  repeat' first
   | refine dn ?_
   | refine tk ?_
   | refine rd ?_
   | exact opZ
   | refine opN ?_
   | refine opS ?_ ?_
   | (refine opY 13 (fun K hK => ?_)
      go_simp
      refine (HFL.out _).mono ?_
      rintro e w1 ⟨rfl, c', c2, hw⟩
      have hb : vBw W w1 := by rw [hw]; exact ((((Below.refl _ W).drew).alloc lzr _).alloc (by simp) _).drew
      clear hw
      have HBW := veil hb
      have hh1 := HH.out.below hb
      have HH1 := veil hh1
      obtain ⟨g', cap'', hv2, _, _, _, _, hfz', hcs'⟩ := hh1.pep.cells (by omega)
      rw [HV.out] at hv2
      simp only [Value.slice.injEq, Option.some.injEq, Addr.mk.injEq, and_true, true_and] at hv2
      obtain ⟨rfl, rfl⟩ := hv2
      obtain ⟨y0', y1', y2', y3'⟩ := hcs' k x hxM
      have f0' := hfz' (k * 4)
      have f1' := hfz' (k * 4 + 1)
      have f2' := hfz' (k * 4 + 2)
      have f3' := hfz' (k * 4 + 3)
      clear hcs' hfz' hh1
      go_wp2_with fail
      refine hK.out _ _ ?_ (fun hHeld => ?_)
      ·exact ⟨HH1.out.b0.cell, HH1.out.b1.cell, by have := HH1.out.pep.c1; rwa [HV.out] at this⟩
      clear hK K
      try simp only [puX])
   | (refine opY 15 (fun K hK => ?_)
      go_simp
      have hh2 := HH1.out.fill HV.out HKM.out (fillS x now) HX.out hgw ⟨lzr, by omega, by omega, by omega, by omega⟩ (by omega)
      refine hK.out _ _ ?_ (fun hHeld => ?_)
      ·exact ⟨hh2.b0.cell, hh2.b1.cell, by have := hh2.pep.c1; rwa [HV.out] at this⟩
      clear hK K
      try simp only [puX])
   | (refine opY _ (fun K hK => ?_)
      go_simp
      refine hK.out _ _ ?_ (fun hHeld => ?_)
      ·omega
      clear hK K
      try simp only [puX])
  refine ⟨?_⟩
  have HH2 := veil hh2
  have hsz2 := hh2.sz
  have HK2 : Hid (KeepsOthers W ((((w1.setCell (vAt g (k * 4)) (vU6 ((fillS x now).b : Int))).setCell (vAt g (k * 4 + 1)) (vU6 ((fillS x now).p : Int))).setCell (vAt g (k * 4 + 2)) (vU6 ((fillS x now).l : Int))).setCell (vAt g (k * 4 + 3)) (vU6 ((fillS x now).d : Int)))) := ((((keeps_below HBW.out).trans (KeepsOthers.setCell _ _ _)).trans (KeepsOthers.setCell _ _ _)).trans (KeepsOthers.setCell _ _ _)).trans (KeepsOthers.setCell _ _ _)
  generalize (((w1.setCell (vAt g (k * 4)) (vU6 ((fillS x now).b : Int))).setCell (vAt g (k * 4 + 1)) (vU6 ((fillS x now).p : Int))).setCell (vAt g (k * 4 + 2)) (vU6 ((fillS x now).l : Int))).setCell (vAt g (k * 4 + 3)) (vU6 ((fillS x now).d : Int)) = W2 at HH2 hsz2 hh2 HK2 ⊢
  have r2 := hh2.b2.cell
  have hdl := dueN_len L now k
  have hk32 : k < 32 := by have := HKM.out; have := HLM.out; omega
  clear hh2 f0' f1' f2' f3' y0' y1' y2' y3'
  gi_wp2_with (gi_at_builtin; refine wpListIn_append_own _ rfl _ _ 123 rfl W0.heap.size 3 i0 (vI6 0) 1 8 Tryz.underlying123 hi hz0 hz1 hz2 rfl (by decide) _ _ _ rfl (HH2.out.row.alloc _) (vA0 W2.heap.size) 1 1 [vI6 (k : Int)] rfl rfl (cell_one_new _ _ _) (by simp [Value.oneCell']) (by omega) (by omega) (by simp; omega) ?_; intro v' w3 hown hgrow _; obtain ⟨g9, cap9, rfl⟩ := ownsRow_succ hown; have hX := HH2.out.more hs hvw ⟨lzr, by omega, by omega, by omega, by omega⟩ ⟨by omega, by omega, by omega, by omega, by omega⟩ ⟨by omega, by omega, by omega, by omega⟩ hown hgrow; have HXX := veil hX; obtain ⟨hbx, _, _⟩ := hX; have hc1 := hbx.cell; have hf1 := hbx.frozen; clear hown hgrow hbx)
  refine ⟨(HK2.out.trans HXX.out.2.2).from _, ?_⟩
  have e1 := fillN_yes HXL.out HD.out
  have e2 := dueN_yes HXL.out HD.out
  have hz := HXX.out.2.1
  rw [← HMM.out] at hz
  grind
 case done =>
  rintro D W hD ⟨lv, hh⟩ hK
  have hc := hh.b2.cell
  gi_wp2
  have hh2 := hh.put (by omega) (.deferred none) hD hK rfl
  refine ⟨by simp, .inl ⟨_, _, rfl, run_takeDeferred hK, ?_⟩⟩
  refine ⟨_, results_tmp rfl _ _ _, lv, rfl, ?_, ?_, hh2.fr⟩
  ·have := hh2.row
   rcases this.2 with e | ⟨g, cap, cur, e, hb, rest⟩
   ·exact ⟨this.1, .inl e⟩
   ·exact ⟨this.1, .inr ⟨g, cap, cur, e, by omega, rest⟩⟩
  ·rw [← fillN_all]
   exact hh2.pep
theorem refill_ok {w:World} {base s P:Nat} {v:Value} {L:List Srv} (h:Pep w base s P v L) (now:Nat) (hn:now<18446744073709551616):
  vCa 49 #[vPt s,vU6 (now:Int)] w fun e w'=> ∃lv,e= .returned lv∧w'.ownsRow w.heap.size 3 1 lv (dueN L now L.length).length (intsN (dueN L now L.length))∧Pep w' base s P v (L.map (refS now))∧Fr (fun b=>some b=v.ownBlock) w w':=
 callsIn_wide.1 (refill_in h now hn)
end Go.Proofs.YtnmhcgpnhlhcgaaGreatDoor.Cb
namespace Go.Proofs.YtnmhcgpnhlhcgaaGreatDoor.Gt
open Go.RowKit Go.Lib
theorem set_same (w:World) (a:Addr) (x u:Value) (h:w.cell? a=some u):(w.setCell a x).cell? a=some x:=World.cell?_setCell_same _ _ _ h
theorem set_other (w:World) (b o b' o':Nat) (x:Value) (h: ¬(b=b'∧o=o')):(w.setCell (vAt b o) x).cell? (vAt b' o')=w.cell? (vAt b' o'):=
 World.cell?_setCell_other _ _ _ _ (by grind)
section
variable {S S':Nat→Prop} {w w' w'':World}
theorem below_drewN {B:Nat} {w w':World} (h:Below B w w') (q:Nat):Below B w (w'.drewN q):=⟨h.os,h.tape,h.output,h.size,h.block⟩
end
structure Rep (w:World) (b g n:Nat) (G S:Nat→Nat):Prop where
 n1:1≤n
 n2:n≤1024
 bg:b≠g
 sl: ∃cp,w.cell? (vA0 b)=some (.slice (some (vA0 g)) n cp)
 gn: ∀x,x<n→w.cell? (vAt g (x*2))=some (vU3 (G x:Int))
 st: ∀x,x<n→w.cell? (vAt g (x*2+1))=some (vI6 (S x:Int))
 fg: ∀o,w.frozen? (vAt g o)=false
section
variable {w w':World} {b g n:Nat} {G S:Nat→Nat}
theorem Rep.lt_b (h:Rep w b g n G S):b<w.heap.size:=by obtain⟨cp,e⟩:=h.sl;exact World.block_lt_of_cell? w _ e
theorem Rep.lt_g (h:Rep w b g n G S):g<w.heap.size:=World.block_lt_of_cell? w _ (h.gn 0 h.n1)
theorem Rep.kept (h:Rep w b g n G S) (hb:w'.heap[b]? =w.heap[b]?) (hg:w'.heap[g]? =w.heap[g]?):Rep w' b g n G S where
 n1:=h.n1
 n2:=h.n2
 bg:=h.bg
 sl:=h.sl.imp fun _ e=>(World.cell?_of_block hb).trans e
 gn:=fun x hx=>(World.cell?_of_block hg).trans (h.gn x hx)
 st:=fun x hx=>(World.cell?_of_block hg).trans (h.st x hx)
 fg:=fun o=>(World.frozen?_of_block hg).trans (h.fg o)
theorem Rep.frame {X:Nat→Prop} (h:Rep w b g n G S) (hf:Fr X w w') (h1: ¬X b) (h2: ¬X g):Rep w' b g n G S:=h.kept (hf.block b h.lt_b h1) (hf.block g h.lt_g h2)
theorem Rep.below (h:Rep w b g n G S) (hf:vBw w w'):Rep w' b g n G S:=h.kept (hf.block b h.lt_b) (hf.block g h.lt_g)
theorem Rep.alloc (h:Rep w b g n G S) (o:Obj):Rep (w.alloc o) b g n G S:=h.below bzA
theorem Rep.like (h:Rep w b g n G S) (a:w'.heap=w.heap):Rep w' b g n G S:=h.kept (by rw[a]) (by rw[a])
theorem Rep.setG (h:Rep w b g n G S) (x:Nat) (hx:x<n) (v:Nat):Rep (w.setCell (vAt g (x*2)) (vU3 (v:Int))) b g n (upd G x v) S where
 n1:=h.n1
 n2:=h.n2
 bg:=h.bg
 sl:=h.sl.imp fun _ e=>by rw[set_other _ _ _ _ _ _ (fun q=>h.bg q.1.symm)];exact e
 gn:=fun y hy=>by
  grind[upd_same,Gt.set_same,Gt.Rep.gn,upd_other,Gt.set_other]
 st:=fun y hy=>by grind[Gt.set_other,Gt.Rep.st]
 fg:=fun o=>by rw[World.frozen?_setCell];exact h.fg o
theorem Rep.setS (h:Rep w b g n G S) (x:Nat) (hx:x<n) (v:Nat):Rep (w.setCell (vAt g (x*2+1)) (vI6 (v:Int))) b g n G (upd S x v) where
 n1:=h.n1
 n2:=h.n2
 bg:=h.bg
 sl:=h.sl.imp fun _ e=>by rw[set_other _ _ _ _ _ _ (by simp)];exact e
 gn:=fun y hy=>by grind[Gt.set_other,Gt.Rep.gn]
 st:=fun y hy=>by
  grind[upd_same,Gt.set_same,Gt.Rep.st,upd_other,Gt.set_other]
 fg:=fun o=>by rw[World.frozen?_setCell];exact h.fg o
end
def hasB (n:Nat) (G S:Nat→Nat) (p:Int) (q:Nat):Bool:=decide (0≤p)&&decide (p<n)&&decide (S p.toNat≠0)&&decide (G p.toNat=q)
attribute [local go_sem ↓] Go.wp_at_zero Go.wp_at_succ
def slotZero:Value:= .agg #[vU3 0,vI6 0]
def slotCells (n:Nat):Array Value:=madeCells slotZero.cells (n*2)
theorem slot_at (n k:Nat) (h:k<n*2):(slotCells n)[k]? =some ((#[Value.int .u32 0,vI6 0]:Array Value)[k%2]!):=by
 unfold slotCells madeCells slotZero
 simp[Value.cells,h]
theorem infoSlot:(Tryz.prog.info? 248).map (fun i=>(i.zero,i.size,i.bytes))=some (some slotZero,2,16):=by rfl
theorem new_rep (w:World) (n:Nat) (h1:1≤n) (h2:n≤1024):
  Rep ((w.alloc (.cells (slotCells n) 248)).alloc (.cells #[.slice (some (vA0 w.heap.size)) n n] 152)) (w.heap.size+1) w.heap.size n (fun _=>0) (fun _=>0):=by
 have e:w.heap.size+1=(w.alloc (.cells (slotCells n) 248)).heap.size:=by simp
 have hg: ∀i,((w.alloc (.cells (slotCells n) 248)).alloc (.cells #[.slice (some (vA0 w.heap.size)) n n] 152)).cell? (vAt w.heap.size i)=(slotCells n)[i]? :=by
  simp
 refine⟨h1,h2,by omega,⟨n,by simp⟩,fun x hx=> ?_,fun x hx=> ?_,fun i=> ?_⟩
 ·grind[Gt.slot_at]
 ·grind[Gt.slot_at]
 simp
theorem new_ok (n:Nat) (w:World) (h1:1≤n) (h2:n≤1024):
  vCa 33 #[vI6 n] w fun e w'=>e= .returned (vPt (w.heap.size+1))∧Rep w' (w.heap.size+1) w.heap.size n (fun _=>0) (fun _=>0)∧vBw w w':=by
 obtain⟨i0,hi,hz0,hz1,hz2⟩:=info_parts infoSlot
 have hmk: ∀w,(Instr.makeSlice 150 (vI6 (n:Int)) (vI6 (n:Int))).run Tryz.prog w= .ok (.slice (some (vA0 w.heap.size)) n n) (w.alloc (.cells (slotCells n) 248)):=by
  intro w
  have:=run_make w 150 248 i0 slotZero (by simp) hi hz0 .i64 .i64 (n:Int) (n:Int) (by omega) (by omega) (by grind) (by omega)
  rw[hz1,show(n:Int).toNat=n by omega] at this
  exact this
 have HR:=veil (new_rep w n h1 h2)
 clear hi hz0 hz1 hz2
 refine ge ?_
 go_wp2
 go_ret
 exact⟨rfl,HR.out,bzA.alloc (by simp) _⟩
section
variable {w:World} {b g n:Nat} {G S:Nat→Nat}
theorem has_ok (h:Rep w b g n G S) (p:Int) (q:Nat):
  vQ 145 #[vPt b,.agg #[vI6 p,vU3 (q:Int)]] w (.bool (hasB n G S p q)):=by
 obtain⟨cp,e0⟩:=h.sl
 have hn2:=h.n2
 have hbb:=h.lt_b
 have hgg:=h.lt_g
 have y1: ¬b=w.heap.size:=by omega
 have y2: ¬g=w.heap.size:=by omega
 by_cases h0:p<0
 ·have hr:hasB n G S p q=false:=by unfold hasB;grind
  rw[hr]
  clear h
  refine ge ?_
  go_wp2
  go_quiet (fail)
  go_wp2
  go_ret
  exact⟨rfl,below_drewN bzA _⟩
 ·by_cases h1:(n:Int)≤p
  ·have hr:hasB n G S p q=false:=by unfold hasB;grind
   rw[hr]
   clear h
   refine ge ?_
   go_wp2
   go_quiet (fail)
   go_wp2
   go_ret
   exact⟨rfl,below_drewN bzA _⟩
  ·obtain⟨x,rfl⟩:=Int.eq_ofNat_of_zero_le (show 0≤p by omega)
   have hx:x<n:=by omega
   have e1:=h.gn x hx
   have e2:=h.st x hx
   have hr:hasB n G S x q=(decide (¬(S x:Int)=0)&&decide ((G x:Int)=q)):=by
    unfold hasB
    grind
   rw[hr]
   clear h hr
   refine ge ?_
   go_wp2
   go_quiet (fail)
   go_wp2
   go_region
   all_goals go_wp2
   all_goals go_ret
   ·rename_i hz
    exact⟨by simp[hz],(below_drewN bzA _).alloc (by simp) _⟩
   ·exact⟨by simp[bne,BEq.beq],(below_drewN bzA _).alloc (by simp) _⟩
end
theorem hasB_some {n:Nat} {G S:Nat→Nat} {p:Int} {q:Nat} (h:hasB n G S p q=true): ∃x:Nat,p=x∧x<n∧S x≠0∧G x=q:=by
 unfold hasB at h
 grind
theorem hasB_mk {n:Nat} {G S:Nat→Nat} {x q:Nat} (hx:x<n) (hs:S x≠0) (hg:G x=q):hasB n G S x q=true:=by
 unfold hasB
 grind
section
variable {w:World} {b g n:Nat} {G S:Nat→Nat}
theorem release_none (h:Rep w b g n G S) (p:Int) (q:Nat) (hh:hasB n G S p q=false):
  vQ 199 #[vPt b,.agg #[vI6 p,vU3 (q:Int)]] w (vI6 6):=by
 have HH:=veil (has_ok (h.alloc (.cells #[vI6 p,vU3 (q:Int)] 76)) p q)
 rw[hh] at HH
 clear h
 refine ge ?_
 go_wp2_with (go_at_call 145;refine cH HH.out fun w1 HB=> ?_)
 go_ret
 exact⟨rfl,bzA.trans (HB.out.mono (by simp))⟩
theorem release_some (h:Rep w b g n G S) (x q:Nat) (hx:x<n) (hs:S x≠0) (hg:G x=q):
  vCa 199 #[vPt b,.agg #[vI6 (x:Int),vU3 (q:Int)]] w fun e w'=>e= .returned (vI6 0)∧Rep w' b g n G (upd S x 0)∧Fr (fun k=>k=g) w w':=by
 have HH:=veil (has_ok (h.alloc (.cells #[vI6 (x:Int),vU3 (q:Int)] 76)) x q)
 rw[hasB_mk hx hs hg] at HH
 have HA:Hid (∀w1,Below (w.alloc (.cells #[vI6 (x:Int),vU3 (q:Int)] 76)).heap.size (w.alloc (.cells #[vI6 (x:Int),vU3 (q:Int)] 76)) w1→
   (Rep w1 b g n G S∧w1.cell? (vA0 w.heap.size)=some (vI6 (x:Int))∧vBw w w1)):=by
  intro w1 hb
  refine⟨(h.alloc _).below hb,?_,bzA.trans (hb.mono (by simp))⟩
  rw[hb.cell (p:=(vA0 w.heap.size)) (by simp),cell_new];rfl
 have hn2:=h.n2
 clear h
 refine ge ?_
 go_wp2_with (go_at_call 145;refine(HH.out).mono ?_;rintro e w1 ⟨rfl,hb⟩;obtain⟨hr1,c1,hb1⟩:=HA.out _ hb;obtain⟨cp,c2⟩:=hr1.sl;have c3:=hr1.st x hx;have c4:=hr1.fg;have HR1:=veil hr1;have HB1:=veil hb1;clear hb hb1 hr1)
 go_region
 all_goals go_wp2
 go_ret
 exact⟨rfl,(HR1.out.setS x hx 0).like rfl,((Fr.of_below' HB1.out).setCell (S:=fun k=>k=g) (a:=(vAt g (x*2+1))) rfl _).drew⟩
theorem state_none (h:Rep w b g n G S) (p:Int) (q:Nat) (hh:hasB n G S p q=false):
  vQ 133 #[vPt b,.agg #[vI6 p,vU3 (q:Int)]] w (.tuple #[vI6 0,.bool false]):=by
 have HH:=veil (has_ok (h.alloc (.cells #[vI6 p,vU3 (q:Int)] 76)) p q)
 rw[hh] at HH
 clear h
 refine ge ?_
 go_wp2_with (go_at_call 145;refine cH HH.out fun w1 HB=> ?_)
 go_ret2
 exact⟨rfl,bzA.trans (HB.out.mono (by simp))⟩
theorem state_some (h:Rep w b g n G S) (x q:Nat) (hx:x<n) (hs:S x≠0) (hg:G x=q):
  vQ 133 #[vPt b,.agg #[vI6 (x:Int),vU3 (q:Int)]] w (.tuple #[vI6 (S x:Int),.bool true]):=by
 have HH:=veil (has_ok (h.alloc (.cells #[vI6 (x:Int),vU3 (q:Int)] 76)) x q)
 rw[hasB_mk hx hs hg] at HH
 have HA:Hid (∀w1,Below (w.alloc (.cells #[vI6 (x:Int),vU3 (q:Int)] 76)).heap.size (w.alloc (.cells #[vI6 (x:Int),vU3 (q:Int)] 76)) w1→
   (Rep w1 b g n G S∧w1.cell? (vA0 w.heap.size)=some (vI6 (x:Int))∧vBw w w1)):=by
  intro w1 hb
  refine⟨(h.alloc _).below hb,?_,bzA.trans (hb.mono (by simp))⟩
  rw[hb.cell (p:=(vA0 w.heap.size)) (by simp),cell_new];rfl
 have hn2:=h.n2
 clear h
 refine ge ?_
 go_wp2_with (go_at_call 145;refine(HH.out).mono ?_;rintro e w1 ⟨rfl,hb⟩;obtain⟨hr1,c1,hb1⟩:=HA.out _ hb;obtain⟨cp,c2⟩:=hr1.sl;have c3:=hr1.st x hx;have HB1:=veil hb1;clear hb hb1 hr1)
 go_quiet (fail)
 go_wp2
 go_ret2
 exact⟨rfl,below_drewN HB1.out _⟩
end
def fol (i j:Nat):Bool:=(i==1&&j==2)||(i==2&&(j==1||j==3||j==4))||((i==3||i==4)&&j==1)
def mayB (a b:Int):Bool:=decide (0≤a)&&decide (a≤4)&&decide (0≤b)&&decide (b≤4)&&fol a.toNat b.toNat
def Tab (w:World):Prop:= ∀i j,i<5→j<5→w.cell? (vAt 0 (i*5+j))=some (.bool (fol i j))
theorem Tab.pos {w:World} (h:Tab w):0<w.heap.size:=World.block_lt_of_cell? w _ (h 0 0 (by omega) (by omega))
theorem Tab.frame {w w':World} {X:Nat→Prop} (h:Tab w) (hf:Fr X w w') (h0: ¬X 0):Tab w':=fun i j hi hj=>(hf.cell (a:=(vAt 0 (i*5+j))) h.pos h0).trans (h i j hi hj)
theorem Tab.below {w w':World} (h:Tab w) (hf:vBw w w'):Tab w':=fun i j hi hj=>(hf.cell (p:=(vAt 0 (i*5+j))) h.pos).trans (h i j hi hj)
theorem isState_yes (a:Int) (w:World) (h:0≤a∧a≤4):
  vS 181 #[vI6 a] w (.bool true):=by
 have h1:=h.1
 have h2:=h.2
 refine ge ?_
 go_wp2
 all_goals go_ret
 simp
theorem isState_no (a:Int) (w:World) (h: ¬(0≤a∧a≤4)):
  vS 181 #[vI6 a] w (.bool false):=by
 by_cases h0:0≤a
 ·have h1: ¬a≤4:=by omega
  refine ge ?_
  go_wp2
  all_goals go_ret
  simp
 ·refine ge ?_
  go_wp2
  all_goals go_ret
  simp
theorem may_in (a b:Nat) (w:World) (h:Tab w) (ha:a<5) (hb:b<5):
  vS 146 #[vI6 (a:Int),vI6 (b:Int)] w (.bool (fol a b)):=by
 have e0:=h a b ha hb
 have H1:=veil (isState_yes (a:Int) w (by omega))
 have H2:=veil (isState_yes (b:Int) w (by omega))
 generalize hf:fol a b=f at*
 clear h hf
 refine ge ?_
 go_wp2_with (first
  |(go_at_call 181;refine cS H1.out ?_;clear H1)
  |(go_at_call 181;refine cS H2.out ?_;clear H2))
 go_ret
 simp
theorem may_out (a b:Int) (w:World) (h: ¬(0≤a∧a≤4∧0≤b∧b≤4)):
  vS 146 #[vI6 a,vI6 b] w (.bool false):=by
 by_cases ha:0≤a∧a≤4
 ·have H1:=veil (isState_yes a w ha)
  have H2:=veil (isState_no b w (by omega))
  clear h ha
  refine ge ?_
  go_wp2_with (first
   |(go_at_call 181;refine cS H1.out ?_;clear H1)
   |(go_at_call 181;refine cS H2.out ?_;clear H2))
  go_ret
  simp
 ·have H1:=veil (isState_no a w ha)
  clear h ha
  refine ge ?_
  go_wp2_with (first
   |(go_at_call 181;refine cS H1.out ?_;clear H1))
  go_ret
  simp
theorem may_ok (a b:Int) (w:World) (h:Tab w):
  vS 146 #[vI6 a,vI6 b] w (.bool (mayB a b)):=by
 by_cases hh:0≤a∧a≤4∧0≤b∧b≤4
 ·obtain⟨x,rfl⟩:=Int.eq_ofNat_of_zero_le hh.1
  obtain⟨y,rfl⟩:=Int.eq_ofNat_of_zero_le hh.2.2.1
  refine(may_in x y w h (by omega) (by omega)).mono ?_
  grind[Gt.mayB]
 grind[Gt.may_out,Gt.mayB]
section
variable {w:World} {b g n:Nat} {G S:Nat→Nat}
theorem move_none (h:Rep w b g n G S) (p s:Int) (q:Nat) (hh:hasB n G S p q=false):
  vQ 94 #[vPt b,.agg #[vI6 p,vU3 (q:Int)],vI6 s] w (vI6 6):=by
 have HH:=veil (has_ok (h.alloc (.cells #[vI6 p,vU3 (q:Int)] 76)) p q)
 rw[hh] at HH
 clear h
 refine ge ?_
 go_wp2_with (go_at_call 145;refine cH HH.out fun w1 HB=> ?_)
 go_ret
 exact⟨rfl,bzA.trans (HB.out.mono (by simp))⟩
theorem move_state (h:Rep w b g n G S) (ht:Tab w) (x q:Nat) (s:Int) (hx:x<n) (hs:S x≠0) (hg:G x=q) (hm:mayB (S x) s=false):
  vQ 94 #[vPt b,.agg #[vI6 (x:Int),vU3 (q:Int)],vI6 s] w (vI6 11):=by
 have HH:=veil (has_ok (h.alloc (.cells #[vI6 (x:Int),vU3 (q:Int)] 76)) x q)
 rw[hasB_mk hx hs hg] at HH
 have HA:Hid (∀w1,Below (w.alloc (.cells #[vI6 (x:Int),vU3 (q:Int)] 76)).heap.size (w.alloc (.cells #[vI6 (x:Int),vU3 (q:Int)] 76)) w1→
   (Rep w1 b g n G S∧w1.cell? (vA0 w.heap.size)=some (vI6 (x:Int))∧vBw w w1∧Tab w1)):=by
  intro w1 hb
  have hbb:=bzA.trans (hb.mono (by simp))
  refine⟨(h.alloc _).below hb,?_,hbb,ht.below hbb⟩
  rw[hb.cell (p:=(vA0 w.heap.size)) (by simp),cell_new];rfl
 have hn2:=h.n2
 have HM:Hid (∀w1,Tab w1→vS 146 #[vI6 (S x:Int),vI6 s] w1 (.bool false)):=fun w1 ht1=>by
  grind[Gt.may_ok]
 clear h ht
 refine ge ?_
 go_wp2_with (go_at_call 145;refine(HH.out).mono ?_;rintro e w1 ⟨rfl,hb⟩;obtain⟨hr1,c1,hb1,ht1⟩:=HA.out _ hb;obtain⟨cp,c2⟩:=hr1.sl;have c3:=hr1.st x hx;have HB1:=veil hb1;have HT1:=veil ht1;clear hb hb1 hr1 ht1)
 go_quiet (first|(go_at_call 146;refine Calls.quiet_of_same (HM.out _ ?_);exact(fun i j hi hj=>HT1.out i j hi hj)))
 go_wp2
 go_ret
 exact⟨rfl,below_drewN HB1.out _⟩
theorem move_some (h:Rep w b g n G S) (ht:Tab w) (x q:Nat) (s:Nat) (hx:x<n) (hs:S x≠0) (hg:G x=q) (hm:mayB (S x) s=true):
  vCa 94 #[vPt b,.agg #[vI6 (x:Int),vU3 (q:Int)],vI6 (s:Int)] w fun e w'=>e= .returned (vI6 0)∧Rep w' b g n G (upd S x s)∧Fr (fun k=>k=g) w w':=by
 have HH:=veil (has_ok (h.alloc (.cells #[vI6 (x:Int),vU3 (q:Int)] 76)) x q)
 rw[hasB_mk hx hs hg] at HH
 have HA:Hid (∀w1,Below (w.alloc (.cells #[vI6 (x:Int),vU3 (q:Int)] 76)).heap.size (w.alloc (.cells #[vI6 (x:Int),vU3 (q:Int)] 76)) w1→
   (Rep w1 b g n G S∧w1.cell? (vA0 w.heap.size)=some (vI6 (x:Int))∧vBw w w1∧Tab w1)):=by
  intro w1 hb
  have hbb:=bzA.trans (hb.mono (by simp))
  refine⟨(h.alloc _).below hb,?_,hbb,ht.below hbb⟩
  rw[hb.cell (p:=(vA0 w.heap.size)) (by simp),cell_new];rfl
 have hn2:=h.n2
 have HM:Hid (∀w1,Tab w1→vS 146 #[vI6 (S x:Int),vI6 (s:Int)] w1 (.bool true)):=fun w1 ht1=>by
  grind[Gt.may_ok]
 clear h ht
 refine ge ?_
 go_wp2_with (go_at_call 145;refine(HH.out).mono ?_;rintro e w1 ⟨rfl,hb⟩;obtain⟨hr1,c1,hb1,ht1⟩:=HA.out _ hb;obtain⟨cp,c2⟩:=hr1.sl;have c3:=hr1.st x hx;have c4:=hr1.fg;have HR1:=veil hr1;have HB1:=veil hb1;have HT1:=veil ht1;clear hb hb1 hr1 ht1)
 go_quiet (first|(go_at_call 146;refine Calls.quiet_of_same (HM.out _ ?_);exact(fun i j hi hj=>HT1.out i j hi hj)))
 go_wp2
 go_region
 all_goals go_wp2
 go_ret
 exact⟨rfl,(HR1.out.setS x hx s).like rfl,by
  have:=((Fr.of_below' HB1.out).setCell (S:=fun k=>k=g) (a:=(vAt g (x*2+1))) rfl (vI6 (s:Int)))
  exact⟨this.os,this.tape,this.output,this.size,this.block⟩⟩
end
end Go.Proofs.YtnmhcgpnhlhcgaaGreatDoor.Gt
namespace Go.Proofs.YtnmhcgpnhlhcgaaGreatDoor.Gt
open Go.RowKit Go.Shelf
attribute [local go_sem] Oper.semAt_some
def pl (S:Nat→Nat) (fr:Bool) (n:Nat):Nat→List (Fin n)
 |0=>[]
 |k+1=>if h:k<n then(if (S k==0)=fr then pl S fr n k++[⟨k,h⟩] else pl S fr n k) else pl S fr n k
theorem pl_yes {S:Nat→Nat} {fr:Bool} {n k:Nat} (h:k<n) (hs:(S k==0)=fr):pl S fr n (k+1)=pl S fr n k++[⟨k,h⟩]:=by rw[pl,dif_pos h,if_pos hs]
theorem pl_no {S:Nat→Nat} {fr:Bool} {n k:Nat} (hs: ¬(S k==0)=fr):pl S fr n (k+1)=pl S fr n k:=by rw[pl];grind
theorem pl_pre (S:Nat→Nat) (fr:Bool) (n k:Nat):pl S fr n k<+:pl S fr n (k+1):=by
 grind[Gt.pl]
theorem pl_le (S:Nat→Nat) (fr:Bool) (n k:Nat): ∀d,pl S fr n k<+:pl S fr n (k+d)
 |0=>(by simp)
 |d+1=>(pl_le S fr n k d).trans (pl_pre S fr n (k+d))
theorem pl_len (S:Nat→Nat) (fr:Bool) (n:Nat): ∀k,(pl S fr n k).length≤k
 |0=>lzr
 |k+1=>by
  have:=pl_len S fr n k
  rw[pl]
  grind
def Kp (n0 B2:Nat) (fr:Bool) (A B:World):Prop:=Below n0 A B∧(Boxed A B2 4 (.bool fr)→Boxed B B2 4 (.bool fr))
structure Reads (W:World) (g n:Nat) (G S:Nat→Nat):Prop where
 gn: ∀x,x<n→W.cell? (vAt g (x*2))=some (vU3 (G x:Int))
 st: ∀x,x<n→W.cell? (vAt g (x*2+1))=some (vI6 (S x:Int))
theorem Reads.below {W W':World} {g n n0:Nat} {G S:Nat→Nat} (h:Reads W g n G S) (hb:Below n0 W W') (h2:g<n0):Reads W' g n G S:=
 ⟨fun x hx=>(hb.cell (p:=(vAt g (x*2))) h2).trans (h.gn x hx),fun x hx=>(hb.cell (p:=(vAt g (x*2+1))) h2).trans (h.st x hx)⟩
theorem Rep.reads {w:World} {b g n:Nat} {G S:Nat→Nat} (h:Rep w b g n G S):Reads w g n G S:=⟨h.gn,h.st⟩
theorem yields_in (nn:Nat) (hn:1≤nn) (l B1 B2 n0 b g n cp:Nat) (G S:Nat→Nat) (fr:Bool) (J Jx:List (Fin n)→World→Prop)
  (hA: ∀pre W o,J pre W→J pre (World.alloc W o))
  (hY: ∀pre (x:Fin n) W,J pre W→pre.length<(pl S fr n n).length→YieldAt Fence.wide (nn-1) Tryz.prog l #[vI6 (x.val:Int)] W fun e W'=>
   (e= .returned (.bool true)∧J (pre++[x]) W'∧Kp n0 B2 fr W W')∨(e= .returned (.bool false)∧Jx (pre++[x]) W'))
  (W:World) (hb1:W.cell? (vA0 B1)=some (vPt b)) (hb2:Boxed W B2 4 (.bool fr)) (hsl:W.cell? (vA0 b)=some (.slice (some (vA0 g)) n cp)) (hr:Reads W g n G S) (hn1:n≤1024) (hgn:g<n0) (hn0:n0≤W.heap.size) (h0:J [] W):
  CallsIn Fence.wide nn Tryz.prog 172 #[.func (.yield l) #[] #[],vPt B1,vPt B2] W fun e W'=>(∃v,e= .returned v)∧
   ((∃ys,ys=pl S fr n n∧J ys W')∨(∃pre,pre<+:pl S fr n n∧Jx pre W')):=by
 have HB2:=veil hb2
 have HR:=veil hr
 have H0:=veil h0
 have HY:=veil hY
 have HA:=veil hA
 have HN0:=veil hn0
 clear hb2 hr h0 hY hA hn0
 refine callsIn_of_wp Tryz.func172 rfl trivial ?_ rfl
 simp only[Tryz.ntmps172,List.size_toArray,List.length_cons,List.length_nil,Nat.reduceAdd,Nat.reduceSub,Array.replicate_succ,Array.replicate_zero,List.push_toArray,List.append_toArray,List.nil_append,List.cons_append]
 gi_wp2
 gi_loopw [11] (fun p wr=> ∃k:Nat,k≤n∧p=vI6 (k:Int)∧Reads wr g n G S∧Boxed wr B2 4 (.bool fr)∧n0≤wr.heap.size∧J (pl S fr n k) wr) (fun p _=>n-(intOf p).toNat)
 case atStart=>exact⟨0,by omega,rfl,HR.out,HB2.out,HN0.out,H0.out⟩
 case round=>
  obtain⟨k,hk,rfl,hre,hbx,hsz,hJ⟩:=hrel
  by_cases hkn:k<n
  ·have e1:=hre.gn k hkn
   have e2:=hre.st k hkn
   have e3:=hbx.cell
   have hlt:=hbx.lt
   have y1: ¬B2=wr.heap.size:=by omega
   have y2: ¬g=wr.heap.size:=by omega
   have hJ1:=HA.out _ _ (.cells #[vU3 (G k:Int),vI6 (S k:Int)] 248) hJ
   have hbx1:=hbx.alloc (.cells #[vU3 (G k:Int),vI6 (S k:Int)] 248)
   have e4:=hbx1.cell
   have hre1:Reads (wr.alloc (.cells #[vU3 (G k:Int),vI6 (S k:Int)] 248)) g n G S:=hre.below ((Below.refl n0 _).alloc hsz _) hgn
   have hsz1:n0≤(wr.alloc (.cells #[vU3 (G k:Int),vI6 (S k:Int)] 248)).heap.size:=by simp;omega
   by_cases hp:(S k==0)=fr
   ·have hlen:(pl S fr n k).length<(pl S fr n n).length:=by
     have h1:=pl_le S fr n (k+1) (n-(k+1))
     rw[show k+1+(n-(k+1))=n by omega,pl_yes hkn hp] at h1
     grind
    obtain⟨fn,tmps,assign,body,hy,hR⟩:=HY.out _ ⟨k,hkn⟩ _ hJ1 hlen
    have HBx:=veil hbx1
    have HRe:=veil hre1
    have HS:=veil hsz1
    have HP:=veil hp
    clear hJ hJ1 hbx hbx1 hre hre1 hlen hsz hsz1 hlt
    dsimp only at hy
    cases fr
    ·have hz: ¬(S k:Int)=0:=by grind
     have hz2:((S k:Int)==0)=false:=by grind
     clear hp
     gi_wp2
     refine hR.mono ?_
     rintro e W3 (⟨rfl,hJ3,hk3⟩|⟨rfl,hJx3⟩)
     ·have hbx3:=hk3.2 HBx.out
      have re3:=HRe.out.below hk3.1 hgn
      have hs3:=Nat.le_trans HS.out hk3.1.size
      have HBx3:=veil hbx3
      have HRe3:=veil re3
      have HS3:=veil hs3
      have HJ3:=veil hJ3
      clear hbx3 re3 hJ3 hk3 hs3 hy hR HY
      gi_wp2
      go_roundw
      case rel=>exact⟨k+1,by omega,by go_num,HRe3.out,HBx3.out,HS3.out,by rw[pl_yes hkn HP.out];exact HJ3.out⟩
      case measure=>simp[intOf];omega
     ·have HJx:=veil hJx3
      clear hJx3 hy hR HY
      gi_wp2
      refine bodyPost_ret (results_none rfl _ _ _) rfl ?_
      refine⟨⟨_,rfl⟩,.inr ⟨_,?_,HJx.out⟩⟩
      have h1:=pl_le S false n (k+1) (n-(k+1))
      rw[show k+1+(n-(k+1))=n by omega,pl_yes hkn HP.out] at h1
      exact h1
    ·have hz:(S k:Int)=0:=by grind
     rw[hz] at e2 e4 hy hR HBx HRe HS
     clear hp
     gi_wp2
     refine hR.mono ?_
     rintro e W3 (⟨rfl,hJ3,hk3⟩|⟨rfl,hJx3⟩)
     ·have hbx3:=hk3.2 HBx.out
      have re3:=HRe.out.below hk3.1 hgn
      have hs3:=Nat.le_trans HS.out hk3.1.size
      have HBx3:=veil hbx3
      have HRe3:=veil re3
      have HS3:=veil hs3
      have HJ3:=veil hJ3
      clear hbx3 re3 hJ3 hk3 hs3 hy hR HY
      gi_wp2
      go_roundw
      case rel=>exact⟨k+1,by omega,by go_num,HRe3.out,HBx3.out,HS3.out,by rw[pl_yes hkn HP.out];exact HJ3.out⟩
      case measure=>simp[intOf];omega
     ·have HJx:=veil hJx3
      clear hJx3 hy hR HY
      gi_wp2
      refine bodyPost_ret (results_none rfl _ _ _) rfl ?_
      refine⟨⟨_,rfl⟩,.inr ⟨_,?_,HJx.out⟩⟩
      have h1:=pl_le S true n (k+1) (n-(k+1))
      rw[show k+1+(n-(k+1))=n by omega,pl_yes hkn HP.out] at h1
      exact h1
   ·have HBx:=veil hbx1
    have HRe:=veil hre1
    have HS:=veil hsz1
    have HP:=veil hp
    have HJ1:=veil hJ1
    clear hJ hJ1 hbx hbx1 hre hre1 hsz hsz1 hlt
    cases fr
    ·have hz:(S k:Int)=0:=by grind
     rw[hz] at e2 e4 HBx HRe HS HJ1
     clear hp HY
     gi_wp2
     refine⟨fun _ h=>(by cases h),?_⟩
     gi_wp2
     go_roundw
     case rel=>exact⟨k+1,by omega,by go_num,HRe.out,HBx.out,HS.out,by rw[pl_no HP.out];exact HJ1.out⟩
     case measure=>simp[intOf];omega
    ·have hz: ¬(S k:Int)=0:=by grind
     clear hp HY
     gi_wp2
     refine⟨fun _ h=>(by cases h),?_⟩
     gi_wp2
     go_roundw
     case rel=>exact⟨k+1,by omega,by go_num,HRe.out,HBx.out,HS.out,by rw[pl_no HP.out];exact HJ1.out⟩
     case measure=>simp[intOf];omega
  ·have hkn':k=n:=by omega
   subst hkn'
   have HJ:=veil hJ
   clear hre hbx hJ hsz HY
   gi_wp2
   go_end0
   exact⟨⟨_,rfl⟩,.inl ⟨_,rfl,HJ.out⟩⟩
theorem step_append_any {P:Program} (w:World) {ops:Array Oper} {o:Oper} {a:Act} {K:Act→World→Prop} {Q:Exit→Act→World→Prop} {E:Prop} (hgd:o.guard=none) (s x:Operand) (t:TypeId)
  (ho:o.op= .call {callee:= .builtin .append,args:= #[s,x],argTypes:= #[t,t]})
  (base:Nat) (e:TypeId) (i:TypeInfo) (z:Value) (size bytes:Nat) (ht:P.underlying t=some (.slice e)) (hi:P.info? e=some i) (hz:i.zero=some z)
  (hsize:i.size=size) (hby:i.bytes=bytes) (hzs:z.cells.size=size) (hsz:0<size)
  (v:Value) (n:Nat) (xs:List Value) (hs:a.eval s=v) (hown:w.ownsRow base e size v n xs)
  (ad:Addr) (m c:Nat) (news:List Value) (hx:a.eval x= .slice (some ad) m c) (hl:news.length=m*size) (hnews: ∀j u,news[j]? =some u→w.cell? (ad.add j)=some u) (h1: ∀u∈news,u.oneCell'=true)
  (h63:n+m≤maxLen) (hbytes:(n+m)*bytes≤140737488355328) (hbase:base≤w.heap.size)
  (h: ∀v' w',w'.ownsRow base e size v' (n+m) (xs++news)→w.grownBy w' v.ownBlock→K (a.put o.dst v') w'):
  if Region.wanted o (yielded ops a.tmps)=true then Oper.wp P o a w K Q else E:=by
 have hw:Region.wanted o (yielded ops a.tmps)=true:=by simp[Region.wanted,hgd]
 rw[if_pos hw]
 exact wp_append_own w s x t ho base e i z size bytes ht hi hz hsize hby hzs hsz v n xs hs hown ad m c news hx hl hnews h1 h63 hbytes hbase fun v' w' h2 h3 _=>h v' w' h2 h3
theorem owns_slice {w:World} {base:Nat} {e:TypeId} {size:Nat} {v:Value} {n:Nat} {xs:List Value} (h:w.ownsRow base e size v n xs): ∃a c,v= .slice a n c:=by
 rcases h.2 with ⟨e,e0⟩|⟨g,cap,cur,e,_⟩
 ·grind
 grind
theorem places_in (nn b:Nat) (fr:Bool) (w:World):
  CallsIn Fence.wide nn Tryz.prog 127 #[vPt b,.bool fr] w fun e w'=>e= .returned (.func (.func 172) #[] #[vPt w.heap.size,vPt (w.heap.size+1)])∧
   w'=(w.alloc (.cells #[vPt b] 92)).alloc (.cells #[.bool fr] 4):=by
 refine callsIn_of_wp Tryz.func127 rfl trivial ?_ rfl
 simp only[Tryz.ntmps127,List.size_toArray,List.length_cons,List.length_nil,Nat.reduceAdd,Nat.reduceSub,Array.replicate_succ,Array.replicate_zero,List.push_toArray,List.append_toArray,List.nil_append,List.cons_append]
 gi_wp2
 go_ret
 simp
theorem kp_trans {n0 B2:Nat} {fr:Bool} {A B C:World} (h:Kp n0 B2 fr A B) (h':Kp n0 B2 fr B C):Kp n0 B2 fr A C:=⟨h.1.trans h'.1,fun q=>h'.2 (h.2 q)⟩
theorem kp_put {w:World} {n0 B2:Nat} {fr:Bool} (hn:n0≤w.heap.size) (W:World) (l:Nat) (o o':Obj) (hl:w.heap.size≤l) (ho:W.heap[l]? =some o) (hc:o.isCells=false) (hw:o.isWalk=false):Kp n0 B2 fr W (W.putObj l o'):=by
 refine⟨belowK_b hn W l o o' hl ho hc hw,fun q=>q.kept (grownBy_putObj' W l o') (fun e=> ?_)⟩
 cases e
 rw[show W.heap[B2]? =_ from q] at ho
 cases ho
 cases hc
theorem kp_append {W w1:World} {n0 B B2 size:Nat} {fr:Bool} {t e:TypeId} {v v':Value} {k m:Nat} {xs ys:List Value} {tmp:Obj} (hte:4≠e) (hte':t≠e) (hv:Boxed W B t v) (hrow:W.ownsRow n0 e size v k xs) (hn0:n0≤W.heap.size) (hB:n0≤B) (hne:B2≠B)
  (hown':w1.ownsRow n0 e size v' m ys) (hgrow:(W.alloc tmp).grownBy w1 v.ownBlock):Kp n0 B2 fr W (w1.setCell (vA0 B) v'):=by
 refine⟨(hv.appended hte' hrow hn0 hB hown' hgrow).2.2.2.2,fun q=> ?_⟩
 have q1:=(q.alloc tmp).kept hgrow (q.not_row hte hrow)
 grind[Boxed.kept,grownBy_setCell']
theorem places_stops (nn:Nat) (hn:1≤nn) (B1 B2 n0 b g n cp:Nat) (G S:Nat→Nat) (fr:Bool) (w:World) (hb1:Boxed w B1 92 (vPt b)) (hb2:Boxed w B2 4 (.bool fr)) (hsl:w.cell? (vA0 b)=some (.slice (some (vA0 g)) n cp)) (hr:Reads w g n G S) (hn1:n≤1024) (hbn:b<n0) (hgn:g<n0) (hn0:n0≤w.heap.size):
  SeqStopsK Fence.wide nn Tryz.prog 172 #[vPt B1,vPt B2] (fun x:Fin n=> #[Value.int .i64 (x.val:Int)]) (Kp n0 B2 fr) (fun ys=>ys=pl S fr n n) (fun pre=>pre<+:pl S fr n n) (pl S fr n n).length w:=by
 intro l J Jx W hW hJ hJx hY h0
 exact yields_in nn hn l B1 B2 n0 b g n cp G S fr J Jx (fun pre W o hh=>hJ pre W _ none hh (World.grownBy_alloc W o none) (by simp)) hY W ((hW.cell (p:=(vA0 B1)) hb1.lt).trans hb1.cell) ((hW.block B2 hb2.lt).trans hb2) ((hW.cell (p:=(vA0 b)) (by grind)).trans hsl) (hr.below (hW.mono hn0) hgn) hn1 hgn (Nat.le_trans hn0 hW.size) h0
def idCells (G:Nat→Nat) {n:Nat} (l:List (Fin n)):List Value:=l.flatMap (fun x=>[Value.int .i64 (x.val:Int),vU3 (G x.val:Int)])
theorem idCells_snoc (G:Nat→Nat) {n:Nat} (l:List (Fin n)) (x:Fin n):idCells G (l++[x])=idCells G l++[vI6 (x.val:Int),vU3 (G x.val:Int)]:=by unfold idCells;simp
theorem infoId:(Tryz.prog.info? 76).map (fun i=>(i.zero,i.size,i.bytes))=some (some (.agg #[vI6 0,vU3 0]),2,16):=by rfl
theorem live_in (b g n : Nat) (G S : Nat → Nat) (w : World) (hq : Rep w b g n G S) :
  CallsIn Fence.wide 4 Tryz.prog 78 #[vPt b] w fun e W' => ∃ v, e = .returned v ∧ W'.ownsRow w.heap.size 76 2 v (pl S false n n).length (idCells G (pl S false n n)) ∧ vBw w W' := by
 have hlb := hq.lt_b
 have hlg := hq.lt_g
 have hn := hq.n2
 obtain ⟨cp, hsl⟩ := hq.sl
 have hlen := pl_len S false n n
 have HQ := veil hq
 clear hq
 obtain ⟨i0, hi, hz0, hz1, hz2⟩ := info_parts infoId
 refine callsIn_of_wp_marks Tryz.func78 rfl trivial ?_ rfl
 simp only [Tryz.ntmps78, List.size_toArray, List.length_cons, List.length_nil, Nat.reduceAdd, Nat.reduceSub, Array.replicate_succ, Array.replicate_zero, List.push_toArray, List.append_toArray, List.nil_append, List.cons_append]
 gi_wp2_with (refine ⟨trivial, ?_⟩; gi_at_call 127; refine (places_in _ b false _).mono ?_; rintro e w' ⟨rfl, rfl⟩)
 have bT := Boxed.new w 92 (vPt b)
 have bO := Boxed.new (w.alloc (.cells #[vPt b] 92)) 187 (.slice none 0 0)
 have b1 := Boxed.new ((w.alloc (.cells #[vPt b] 92)).alloc (.cells #[.slice none 0 0] 187)) 92 (vPt b)
 have b2 := Boxed.new (((w.alloc (.cells #[vPt b] 92)).alloc (.cells #[.slice none 0 0] 187)).alloc (.cells #[vPt b] 92)) 4 (.bool false)
 have hB0 : vBw w ((((w.alloc (.cells #[vPt b] 92)).alloc (.cells #[.slice none 0 0] 187)).alloc (.cells #[vPt b] 92)).alloc (.cells #[.bool false] 4)) := ((((Below.refl _ w).alloc lzr _).alloc (by simp) _).alloc (by simp; omega) _).alloc (by simp; omega) _
 simp only [World.size_alloc] at bO b1 b2 ⊢
 refine wpIn_rangeFunc_ownG rfl (by decide) (gf := 172) (lb := #[vPt (w.heap.size + 1 + 1), vPt (w.heap.size + 1 + 1 + 1)]) rfl trivial (enters_of Tryz.func172 (by rfl) rfl)
  (places_stops 3 (by decide) (w.heap.size + 1 + 1) (w.heap.size + 1 + 1 + 1) w.heap.size b g n cp G S false _ (b1.alloc _) b2 ((hB0.cell (p := (vA0 b)) hlb).trans hsl) (HQ.out.reads.below hB0 hlg) hn hlb hlg hB0.size) kp_trans (kp_put hB0.size) bzR (fun _ => rfl)
  (fun (pre : List (Fin n)) W => ((∃ v, Boxed W (w.heap.size + 1) 187 v ∧ W.ownsRow w.heap.size 76 2 v pre.length (idCells G pre) ∧ True) ∧ Boxed W w.heap.size 92 (vPt b)) ∧ vBw w W)
  (fun _ _ _ => False)
  (OwnFrom.and (OwnFrom.and (Own.from (holdsRow_own w.heap.size (w.heap.size + 1) 187 76 2 (fun pre : List (Fin n) => pre.length) (fun pre : List (Fin n) => idCells G pre) (fun _ _ => True)) _) (Own.from (boxed_own w.heap.size 92 (fun _ : List (Fin n) => vPt b)) _)) (ownFrom_below lzr hB0.size))
  (fun _ _ _ _ _ hs _ _ => hs)
  ⟨⟨⟨_, (bO.alloc _).alloc _, World.ownsRow_nil _ _ _ _, trivial⟩, ((bT.alloc _).alloc _).alloc _⟩, hB0⟩
  (fun x => { tmps := #[vPt b, vPt w.heap.size, .slice none 0 0, vPt (w.heap.size + 1), vI6 (x.val : Int), vPt b, .bool false, vPt b, .func (.func 172) #[] #[vPt (w.heap.size + 1 + 1), vPt (w.heap.size + 1 + 1 + 1)], vI6 (x.val : Int), undef, undef, undef, undef, undef, undef, undef, undef, undef, undef, undef, undef, undef, undef], defers := [] }) ?assign ?body ?done ?stop
 case assign =>
  intro l x W K hK
  gi_wp2
  exact hK
 case body =>
  rintro l pre x W ⟨⟨⟨v, hv, hrow, _⟩, hbt⟩, hB⟩ hlt
  obtain ⟨a0, c0, rfl⟩ := owns_slice hrow
  have hc := hv.cell
  have hf := hv.frozen
  have hct := hbt.cell
  have hsz := hB.size
  have hxn := x.isLt
  have hsl1 := (hB.cell (p := (vA0 b)) hlb).trans hsl
  have hg1 := (hB.cell (p := (vAt g (x.val * 2))) hlg).trans (HQ.out.gn x.val hxn)
  have HU := veil Tryz.underlying187
  have HL : Hid ((W.drew.alloc (.cells #[vI6 (x.val : Int), vU3 (G x.val : Int)] 76)).ownsRow w.heap.size 76 2 (.slice a0 pre.length c0) pre.length (idCells G pre)) := by
   have := hrow.alloc (.cells #[vI6 (x.val : Int), vU3 (G x.val : Int)] 76)
   exact this
  have HN : Hid (∀ j u, [Value.int .i64 (x.val : Int), vU3 (G x.val : Int)][j]? = some u → (W.drew.alloc (.cells #[vI6 (x.val : Int), vU3 (G x.val : Int)] 76)).cell? (((vA0 W.heap.size) : Addr).add j) = some u) := by
   intro j u hu
   have hadd : ((vA0 W.heap.size) : Addr).add j = (vAt W.heap.size j) := by unfold Addr.add; grind
   rw [hadd]
   have := cell_new W.drew #[vI6 (x.val : Int), vU3 (G x.val : Int)] 76 j
   simp_all
  have HF : Hid (∀ (w1 : World) (v' : Value), w1.ownsRow w.heap.size 76 2 v' (pre.length + 1) (idCells G pre ++ [vI6 (x.val : Int), vU3 (G x.val : Int)]) → (W.drew.alloc (.cells #[vI6 (x.val : Int), vU3 (G x.val : Int)] 76)).grownBy w1 (Value.ownBlock (.slice a0 pre.length c0)) →
    w1.cell? (vA0 (w.heap.size + 1)) = some (.slice a0 pre.length c0) ∧ w1.frozen? (vA0 (w.heap.size + 1)) = false ∧
    (w1.cell? (vA0 w.heap.size) = some (vPt b) ∧ w1.cell? (vA0 b) = some (.slice (some (vA0 g)) n cp) ∧ w1.cell? (vAt g (x.val * 2)) = some (vU3 (G x.val : Int))) ∧
    ((w1.setCell (vA0 (w.heap.size + 1)) v').cell? (vA0 w.heap.size) = some (vPt b) ∧ (w1.setCell (vA0 (w.heap.size + 1)) v').cell? (vA0 b) = some (.slice (some (vA0 g)) n cp) ∧ (w1.setCell (vA0 (w.heap.size + 1)) v').cell? (vAt g (x.val * 2)) = some (vU3 (G x.val : Int))) ∧
    (KeepsFrom ((((w.alloc (.cells #[vPt b] 92)).alloc (.cells #[.slice none 0 0] 187)).alloc (.cells #[vPt b] 92)).alloc (.cells #[.bool false] 4)).heap.size W (w1.setCell (vA0 (w.heap.size + 1)) v') ∧ Kp w.heap.size (w.heap.size + 1 + 1 + 1) false W (w1.setCell (vA0 (w.heap.size + 1)) v') ∧
     ((∃ v, Boxed (w1.setCell (vA0 (w.heap.size + 1)) v') (w.heap.size + 1) 187 v ∧ (w1.setCell (vA0 (w.heap.size + 1)) v').ownsRow w.heap.size 76 2 v (pre ++ [x]).length (idCells G (pre ++ [x])) ∧ True) ∧ Boxed (w1.setCell (vA0 (w.heap.size + 1)) v') w.heap.size 92 (vPt b)) ∧ vBw w (w1.setCell (vA0 (w.heap.size + 1)) v'))) := by
   intro w1 v' ho hg
   have hgW : (W.alloc (.cells #[vI6 (x.val : Int), vU3 (G x.val : Int)] 76)).grownBy w1 (Value.ownBlock (.slice a0 pre.length c0)) := ⟨hg.os, hg.tape, hg.output, hg.size, hg.block⟩
   obtain ⟨hv1, hv2, hr2, hk2, hb2⟩ := hv.appended (by decide) hrow hsz (by omega) ho hgW
   have hkp := kp_append (B2 := w.heap.size + 1 + 1 + 1) (fr := false) (by decide) (by decide) hv hrow hsz (by omega) (by omega) ho hgW
   have hbt1 := (hbt.alloc (.cells #[vI6 (x.val : Int), vU3 (G x.val : Int)] 76)).kept hgW (hbt.not_row (by decide) hrow)
   have hbt2 : Boxed (w1.setCell (vA0 (w.heap.size + 1)) v') w.heap.size 92 (vPt b) := hbt1.other (by omega) _
   have hbw := hB.trans hb2
   have hw1 : Below w.heap.size W w1 := by
    refine ((Below.refl w.heap.size W).alloc hsz (.cells #[vI6 (x.val : Int), vU3 (G x.val : Int)] 76)).trans ⟨hgW.os, hgW.tape, hgW.output, hgW.size, fun k hk => hgW.block k (Nat.lt_of_lt_of_le hk (by simp; omega)) (fun e => ?_)⟩
    have := (hrow.lt k e.symm).1
    omega
   have hbw1 := hB.trans hw1
   refine ⟨hv1.cell, hv1.frozen, ⟨hbt1.cell, (hbw1.cell (p := (vA0 b)) hlb).trans hsl, (hbw1.cell (p := (vAt g (x.val * 2))) hlg).trans (HQ.out.gn x.val hxn)⟩, ⟨hbt2.cell, (hbw.cell (p := (vA0 b)) hlb).trans hsl, (hbw.cell (p := (vAt g (x.val * 2))) hlg).trans (HQ.out.gn x.val hxn)⟩, hk2.from _, hkp, ⟨⟨_, hv2, by rw [idCells_snoc]; simpa using hr2, trivial⟩, hbt2⟩, hbw⟩
  have hple : pre.length < 1024 := by omega
  have hcA := (hv.alloc (.cells #[vI6 (x.val : Int), vU3 (G x.val : Int)] 76)).cell
  have yA : ¬ w.heap.size + 1 = W.heap.size := by have := hv.lt; omega
  have HA : Hid ((W.alloc (.cells #[vI6 (x.val : Int), vU3 (G x.val : Int)] 76)).cell? (vA0 w.heap.size) = some (vPt b) ∧ (W.alloc (.cells #[vI6 (x.val : Int), vU3 (G x.val : Int)] 76)).cell? (vA0 b) = some (.slice (some (vA0 g)) n cp) ∧ (W.alloc (.cells #[vI6 (x.val : Int), vU3 (G x.val : Int)] 76)).cell? (vAt g (x.val * 2)) = some (vU3 (G x.val : Int))) :=
   ⟨(hbt.alloc _).cell, (World.cell?_alloc_lt _ _ _ (by grind)).trans hsl1, (World.cell?_alloc_lt _ _ _ (by grind)).trans hg1⟩
  clear hv hrow hbt hB
  gi_wp2
  refine region_round (fun w' => w'.cell? (vA0 w.heap.size) = some (vPt b) ∧ w'.cell? (vA0 b) = some (.slice (some (vA0 g)) n cp) ∧ w'.cell? (vAt g (x.val * 2)) = some (vU3 (G x.val : Int))) (by rfl) (by kernel_rfl) (by rintro ⟨a, w, h⟩; exact h) ⟨hct, hsl1, hg1⟩ (fun hHeld => ?_)
  refine st ?_
  repeat' first
   | refine dn ?_
   | refine tk ?_
   | refine rd ?_
   | exact opZ
   | refine opN ?_
   | refine opS ?_ ?_
   | (refine opY 12 (fun K hK => ?_)
      refine step_append_any _ (by rfl) _ _ _ (by rfl) w.heap.size 76 i0 (.agg #[vI6 0, vU3 0]) 2 16 HU.out hi hz0 hz1 hz2 rfl (by omega) _ _ _ (by rfl) HL.out (vA0 W.heap.size) 1 1 [vI6 (x.val : Int), vU3 (G x.val : Int)] (by rfl) rfl HN.out (by simp [Value.oneCell']) (by unfold maxLen; omega) (by omega) (by simp; omega) ?_
      intro v' w1 hown' hgrow'
      obtain ⟨g', cap', rfl⟩ := ownsRow_succ hown'
      have HX := veil (HF.out _ _ hown' hgrow')
      have hc1 := HX.out.1
      have hf1 := HX.out.2.1
      refine hK.out _ _ ?_ (fun hHeld => ?_)
      ·exact HX.out.2.2.1
      clear hK K
      try simp only [puX])
   | (refine opY _ (fun K hK => ?_)
      go_simp
      refine hK.out _ _ ?_ (fun hHeld => ?_)
      ·omega
      clear hK K
      try simp only [puX])
   | (refine opY _ (fun K hK => ?_)
      go_simp
      refine hK.out _ _ ?_ (fun hHeld => ?_)
      ·assumption
      clear hK K
      try simp only [puX])
   | (refine opY _ (fun K hK => ?_)
      go_simp
      refine hK.out _ _ ?_ (fun hHeld => ?_)
      ·exact HX.out.2.2.2.1
      clear hK K
      try simp only [puX])
  all_goals
   refine ⟨?_⟩
   gi_wp2
   exact HX.out.2.2.2.2
 case done =>
  rintro D ys W hD rfl ⟨⟨⟨v, hv, hrow, _⟩, hbt⟩, hB⟩ hK
  have hc := hv.cell
  gi_wp2
  refine ⟨by simp, .inl ⟨_, _, rfl, run_takeDeferred hK, ?_⟩⟩
  exact ⟨_, results_tmp rfl _ _ _, v, rfl, ownsRow_putObj hrow _ hK rfl, hB.trans (belowK_b (w := w) lzr W D _ _ (by simp at hD; omega) hK rfl rfl)⟩
 case stop =>
  rintro D c pre W _ _ h _
  exact h.elim
theorem live_ok {w:World} {b g n:Nat} {G S:Nat→Nat} (hq:Rep w b g n G S):
  vCa 78 #[vPt b] w fun e W'=> ∃v,e= .returned v∧W'.ownsRow w.heap.size 76 2 v (pl S false n n).length (idCells G (pl S false n n))∧vBw w W':=
 callsIn_wide.1 (live_in b g n G S w hq)
theorem ownFrom_rep {β:Type} {B b g n:Nat} (G S:β→Nat→Nat) (hb:b<B) (hg:g<B):OwnFrom B (fun s W=>Rep W b g n (G s) (S s)):=fun s W W' row hs hgr hr=>
 hs.kept (hgr.block b hs.lt_b (by grind)) (hgr.block g hs.lt_g (by grind))
theorem ownFrom_fr {β:Type} {B:Nat} {X:Nat→Prop} {w:World} (hB:w.heap.size≤B):OwnFrom B (fun (_:β) W=>Fr X w W):=fun _ W W' row hs hgr hr=>
 ⟨hgr.os.trans hs.os,hgr.tape.trans hs.tape,hgr.output.trans hs.output,Nat.le_trans hs.size hgr.size,fun k hk hn=>(hgr.block k (Nat.lt_of_lt_of_le hk hs.size) (by grind)).trans (hs.block k hk hn)⟩
theorem fr_put {X:Nat→Prop} {w W:World} {D:Nat} (o':Obj) (h:Fr X w W) (hD:w.heap.size≤D):Fr X w (W.putObj D o'):=by
 have hg:=grownBy_putObj' W D o'
 exact⟨hg.os.trans h.os,hg.tape.trans h.tape,hg.output.trans h.output,Nat.le_trans h.size hg.size,fun k hk hn=>(hg.block k (Nat.lt_of_lt_of_le hk h.size) (by grind)).trans (h.block k hk hn)⟩
theorem rep_put {W:World} {b g n D:Nat} {G S:Nat→Nat} (o':Obj) (h:Rep W b g n G S) (hb:b≠D) (hg:g≠D):Rep (W.putObj D o') b g n G S:=by
 have hgr:=grownBy_putObj' W D o'
 exact h.kept (hgr.block b h.lt_b (by grind)) (hgr.block g h.lt_g (by grind))
structure Ans (W:World) (s:Nat) (p q e:Int):Prop where
 c0:W.cell? (vA0 (s+1))=some (vI6 p)
 c1:W.cell? (vAt (s+1) 1)=some (vU3 q)
 c2:W.cell? (vA0 (s+1+1))=some (vI6 e)
 f0:W.frozen? (vA0 (s+1))=false
 f1:W.frozen? (vAt (s+1) 1)=false
 f2:W.frozen? (vA0 (s+1+1))=false
theorem Ans.kept {W W':World} {row:Option Nat} {s:Nat} {p q e:Int} (h:Ans W s p q e) (hg:W.grownBy W' row) (hr: ∀r,row=some r→ ∃o:Obj,W.heap[r]? =some o∧o.isCells=false):Ans W' s p q e:=
 ⟨cell_kept h.c0 hg hr,cell_kept h.c1 hg hr,cell_kept h.c2 hg hr,(frozen_kept h.c0 hg hr).trans h.f0,(frozen_kept h.c1 hg hr).trans h.f1,(frozen_kept h.c2 hg hr).trans h.f2⟩
theorem Ans.far {W:World} {s g o:Nat} {p q e:Int} {v:Value} (h:Ans W s p q e) (h1:g≠s+1) (h2:g≠s+1+1):Ans (W.setCell (vAt g o) v) s p q e:=
 ⟨by grind[Gt.set_other,Gt.Ans.c0],by grind[Gt.set_other,Gt.Ans.c1],by grind[Gt.set_other,Gt.Ans.c2],by rw[World.frozen?_setCell];exact h.f0,by rw[World.frozen?_setCell];exact h.f1,by rw[World.frozen?_setCell];exact h.f2⟩
theorem Ans.store {W:World} {s:Nat} {p q e:Int} (h:Ans W s p q e) (p' q' e':Int):Ans (((W.setCell (vA0 (s+1)) (vI6 p')).setCell (vAt (s+1) 1) (vU3 q')).setCell (vA0 (s+1+1)) (vI6 e')) s p' q' e':=by
 exact mK
theorem _root_.Go.Proofs.YtnmhcgpnhlhcgaaGreatDoor.Fr.setNew {X:Nat→Prop} {w w':World} (h:Fr X w w') {a:Addr} (ha:w.heap.size≤a.block) (u:Value):Fr X w (w'.setCell a u):=
 ⟨h.os,h.tape,h.output,by simpa using h.size,fun k hk hn=>(Below.heap_setCell _ _ _ _ (by omega)).trans (h.block k hk hn)⟩
theorem Rep.far {W:World} {b g n o k:Nat} {G S:Nat→Nat} {v:Value} (h:Rep W b g n G S) (h1:b≠k) (h2:g≠k):Rep (W.setCell (vAt k o) v) b g n G S:=
 mK
theorem alloc_in (b g n:Nat) (G S:Nat→Nat) (w:World) (hq:Rep w b g n G S) (hG: ∀x,x<n→G x+1<4294967296):
  CallsIn Fence.wide 4 Tryz.prog 99 #[vPt b] w fun e W'=>
   (∃x:Fin n,[x]<+:pl S true n n∧e=vRt #[.agg #[vI6 (x.val:Int),vU3 ((G x.val+1:Nat):Int)],vI6 0]∧Rep W' b g n (upd G x.val (G x.val+1)) (upd S x.val 1)∧Fr (fun k=>k=g) w W')∨
   (pl S true n n=[]∧e=vRt #[.agg #[vI6 0,vU3 0],vI6 4]∧vBw w W'):=by
 have hlb:=hq.lt_b
 have hlg:=hq.lt_g
 have hn:=hq.n2
 obtain⟨cp,hsl⟩:=hq.sl
 have HQ:=veil hq
 have HG:=veil hG
 clear hq hG
 refine callsIn_of_wp_marks Tryz.func99 rfl trivial ?_ rfl
 simp only[Tryz.ntmps99,List.size_toArray,List.length_cons,List.length_nil,Nat.reduceAdd,Nat.reduceSub,Array.replicate_succ,Array.replicate_zero,List.push_toArray,List.append_toArray,List.nil_append,List.cons_append]
 gi_wp2_with (refine⟨trivial,?_⟩;gi_at_call 127;refine(places_in _ b true _).mono ?_;rintro e w' ⟨rfl,rfl⟩)
 have bT:=Boxed.new w 92 (vPt b)
 obtain⟨W0,hW0⟩: ∃W0,(((w.alloc (.cells #[vPt b] 92)).alloc (.cells #[vI6 0,vU3 0] 76)).alloc (.cells #[vI6 0] 32))=W0:=⟨_,rfl⟩
 have hs0:W0.heap.size=w.heap.size+1+1+1:=by rw[←hW0];simp
 have hA0:Ans W0 w.heap.size 0 0 0:=by
  rw[←hW0]
  have hw1:w.heap.size+1=(w.alloc (.cells #[vPt b] 92)).heap.size:=by simp
  have hw2:w.heap.size+1+1=((w.alloc (.cells #[vPt b] 92)).alloc (.cells #[vI6 0,vU3 0] 76)).heap.size:=by simp
  have hc: ∀k,(((w.alloc (.cells #[vPt b] 92)).alloc (.cells #[vI6 0,vU3 0] 76)).alloc (.cells #[vI6 0] 32)).cell? (vAt (w.heap.size+1) k)=(#[vI6 0,vU3 0]:Array Value)[k]? :=by
   intro k
   rw[World.cell?_alloc_lt _ _ _ (by simp),hw1,cell_new]
  have hf: ∀k,(((w.alloc (.cells #[vPt b] 92)).alloc (.cells #[vI6 0,vU3 0] 76)).alloc (.cells #[vI6 0] 32)).frozen? (vAt (w.heap.size+1) k)=false:=by
   intro k
   rw[show(((w.alloc (.cells #[vPt b] 92)).alloc (.cells #[vI6 0,vU3 0] 76)).alloc (.cells #[vI6 0] 32)).frozen? (vAt (w.heap.size+1) k)=((w.alloc (.cells #[vPt b] 92)).alloc (.cells #[vI6 0,vU3 0] 76)).frozen? (vAt (w.heap.size+1) k) from World.frozen?_of_block (Below.heap_alloc _ _ _ (by simp)),hw1]
   simp
  refine⟨by grind,by grind,by rw[hw2,cell_new];rfl,hf 0,hf 1,?_⟩
  rw[hw2];exact frozen_new _ _ _ _
 have hT0:Boxed W0 w.heap.size 92 (vPt b):=by rw[←hW0];exact(bT.alloc _).alloc _
 have hB00:vBw w W0:=by rw[←hW0];exact(((Below.refl _ w).alloc lzr _).alloc (by simp) _).alloc (by simp;omega) _
 rw[hW0]
 have b1:=Boxed.new W0 92 (vPt b)
 have b2:=Boxed.new (W0.alloc (.cells #[vPt b] 92)) 4 (.bool true)
 have hB0:vBw w ((W0.alloc (.cells #[vPt b] 92)).alloc (.cells #[.bool true] 4)):=(hB00.alloc (by omega) _).alloc (by simp;omega) _
 simp only[World.size_alloc,hs0] at b1 b2⊢
 refine wpIn_rangeFunc_ownG rfl (by decide) (gf:=172) (lb:= #[vPt (w.heap.size+1+1+1),vPt (w.heap.size+1+1+1+1)]) rfl trivial (enters_of Tryz.func172 (by rfl) rfl)
  (places_stops 3 (by decide) (w.heap.size+1+1+1) (w.heap.size+1+1+1+1) w.heap.size b g n cp G S true _ (b1.alloc _) b2 ((hB0.cell (p:=(vA0 b)) hlb).trans hsl) (HQ.out.reads.below hB0 hlg) hn hlb hlg hB0.size) kp_trans (kp_put hB0.size) bzR (fun _=>rfl)
  (fun (pre:List (Fin n)) W=>((pre=[]∧Ans W w.heap.size 0 0 0)∧Boxed W w.heap.size 92 (vPt b))∧vBw w W)
  (fun c (pre:List (Fin n)) W=> ∃x:Fin n,(c= .ret∧pre=[x])∧Ans W w.heap.size (x.val:Int) ((G x.val+1:Nat):Int) 0∧Rep W b g n (upd G x.val (G x.val+1)) (upd S x.val 1)∧Fr (fun k=>k=g) w W)
  (OwnFrom.and (OwnFrom.and (fun _ _ _ _ hs hg hr=>⟨hs.1,hs.2.kept hg (fun r e=>(hr r e).2)⟩) (Own.from (boxed_own w.heap.size 92 (fun _:List (Fin n)=>vPt b)) _)) (ownFrom_below lzr hB0.size))
  (fun _ _ _ _ _ hs hg hr=>by
   obtain⟨x,h1,h2,h3,h4⟩:=hs
   exact⟨x,h1,h2.kept hg (fun r e=>(hr r e).2),ownFrom_rep (β:=Unit) (B:=((W0.alloc (.cells #[vPt b] 92)).alloc (.cells #[.bool true] 4)).heap.size) (fun _=>upd G x.val (G x.val+1)) (fun _=>upd S x.val 1) (by simp;omega) (by simp;omega) () _ _ _ h3 hg hr,ownFrom_fr (β:=Unit) (X:=fun k=>k=g) (B:=((W0.alloc (.cells #[vPt b] 92)).alloc (.cells #[.bool true] 4)).heap.size) (w:=w) hB0.size () _ _ _ h4 hg hr⟩)
  ⟨⟨⟨rfl,(hA0.kept (World.grownBy_alloc W0 _ none) (fun r e=>by cases e)).kept (World.grownBy_alloc _ _ none) (fun r e=>by cases e)⟩,(hT0.alloc _).alloc _⟩,hB0⟩
  (fun x=>{tmps:= #[vPt b,vPt w.heap.size,vPt (w.heap.size+1),vPt (w.heap.size+1+1),vI6 (x.val:Int),undef,vPt b,.bool false,undef,vPt b,.func (.func 172) #[] #[vPt (w.heap.size+1+1+1),vPt (w.heap.size+1+1+1+1)],vI6 (x.val:Int),undef,undef,undef,undef,undef,undef,undef,undef,undef,undef,undef,undef,undef,undef,undef,undef,undef,undef,undef,undef,undef],defers:=[]}) ?assign ?body ?done ?stop
 case assign=>
  intro l x W K hK
  gi_wp2
  exact hK
 case body=>
  rintro l pre x W ⟨⟨⟨hpre,hA⟩,hbt⟩,hB⟩ hlt
  subst hpre
  have hct:=hbt.cell
  have hxn:=x.isLt
  have hx1:=HG.out x.val hxn
  have hsl1:=(hB.cell (p:=(vA0 b)) hlb).trans hsl
  have hR:=HQ.out.below hB
  have hg1:=hR.gn x.val hxn
  have hg2:=hR.st x.val hxn
  have hfg:=hR.fg
  have HA:=veil hA
  obtain⟨a0,a1,a2,a3,a4,a5⟩:=hA
  have yg1: ¬g=w.heap.size:=by omega
  have yg2: ¬g=w.heap.size+1:=by omega
  have yg3: ¬g=w.heap.size+1+1:=by omega
  have yb:=hR.bg
  have HB:=veil hB
  have HRR:=veil hR
  clear hB hR hbt HG
  gi_wp2
  have e:((G x.val:Int)+1)=((G x.val+1:Nat):Int):=by omega
  rw[e]
  refine⟨(((((KeepsOthers.setCell _ _ _).trans (KeepsOthers.setCell _ _ _)).trans (KeepsOthers.setCell _ _ _)).trans (KeepsOthers.setCell _ _ _)).trans (KeepsOthers.setCell _ _ _)).from _,x,⟨rfl,rfl⟩,((HA.out.far yg2 yg3).far yg2 yg3).store _ _ _,?_,?_⟩
  ·exact(((((HRR.out.setG x.val hxn _).setS x.val hxn 1).far (by omega) (by omega)).far (by omega) (by omega)).far (by omega) (by omega))
  ·exact(((((Fr.of_below' (S:=fun k=>k=g) HB.out).setCell (a:=(vAt g (x.val*2))) rfl _).setCell (a:=(vAt g (x.val*2+1))) rfl _).setNew (a:=(vA0 (w.heap.size+1))) (by simp) _).setNew (a:=(vAt (w.heap.size+1) 1)) (by simp) _).setNew (a:=(vA0 (w.heap.size+1+1))) (by grind) _
 case done=>
  rintro D ys W hD rfl ⟨⟨⟨hpre,hA⟩,hbt⟩,hB⟩ hK
  have HA:=veil hA
  obtain⟨a0,a1,a2,a3,a4,a5⟩:=hA
  have HP:=veil hpre
  clear hpre
  gi_wp2
  have hK1:=(((KeepsOthers.setCell W (vA0 (w.heap.size+1)) (vI6 0)).trans (KeepsOthers.setCell _ (vAt (w.heap.size+1) 1) (vU3 0))).trans (KeepsOthers.setCell _ (vA0 (w.heap.size+1+1)) (vI6 4))).same D _ hK rfl
  refine⟨by simp,.inl ⟨_,_,rfl,run_takeDeferred hK1,?_⟩⟩
  have hA5:=(HA.out.store 0 0 4).kept (grownBy_putObj' _ D (.deferred none)) (fun r e=>by cases e;exact⟨_,hK1,rfl⟩)
  have d0:=hA5.c0
  have d1:=hA5.c1
  have d2:=hA5.c2
  refine⟨.tuple #[.agg #[vI6 0,vU3 0],vI6 4],?_,.inr ⟨HP.out,rfl,((((hB.setCell (p:=(vA0 (w.heap.size+1))) (by simp) _).setCell (p:=(vAt (w.heap.size+1) 1)) (by simp) _).setCell (p:=(vA0 (w.heap.size+1+1))) (by grind) _).trans (belowK_b (w:=w) lzr _ D _ _ (by simp at hD;omega) hK1 rfl rfl))⟩⟩
  simp[results,Tryz.f99,go_sem,d0,d1,d2]
 case stop=>
  rintro D c pre W hD hsp ⟨x,⟨rfl,rfl⟩,hA,hR,hF⟩ hK
  have hDw:w.heap.size+1+1+1≤D:=by simp at hD;omega
  gi_wp2
  refine⟨by simp,.inl ⟨_,_,rfl,run_takeDeferred hK,?_⟩⟩
  have hA5:=hA.kept (grownBy_putObj' _ D (.deferred none)) (fun r e=>by cases e;exact⟨_,hK,rfl⟩)
  have d0:=hA5.c0
  have d1:=hA5.c1
  have d2:=hA5.c2
  refine⟨.tuple #[.agg #[vI6 (x.val:Int),vU3 ((G x.val+1:Nat):Int)],vI6 0],?_,.inl ⟨x,hsp,rfl,rep_put _ hR (by omega) (by omega),fr_put _ hF (by omega)⟩⟩
  simp[results,Tryz.f99,go_sem,d0,d1,d2]
end Go.Proofs.YtnmhcgpnhlhcgaaGreatDoor.Gt
namespace Go.Proofs.YtnmhcgpnhlhcgaaGreatDoor.Gt
open Go.RowKit Go.Lib Go.Deep Go.ChangeShapes Go.WideShapes
theorem gTab : Tryz.prog.globalNamed "boatswain/gtab.follows" = some 0 := by rfl
theorem gTabType:(Tryz.prog.globals[0]?).map (·.type)=some 297:=by rfl
theorem cellsIn:Tryz.prog.cellsOf 296=5:=by rfl
theorem cellsBool:Tryz.prog.cellsOf 4=1:=by rfl
theorem folData {H:Type}:(Rows.laid_boatswain_gtab_follows:DataW H)= .agg ((List.range 5).map fun i=> .agg ((List.range 5).map fun j=> .lit (.bool (fol i j)))):=rfl
theorem tab_of_laid {W : World} (h : laidMetH Tryz.prog [("boatswain/gtab.follows", Rows.laid_boatswain_gtab_follows)] W) : Tab W := by
 have h' : laidMet Tryz.prog [("boatswain/gtab.follows", Rows.laid_boatswain_gtab_follows)] W := h
 obtain⟨ps,⟨g',t',cs,fuel,p,q,hg',ht',hvar,hd,_,_⟩,_⟩:=h'
 obtain rfl:=Option.some.inj (gTab.symm.trans hg')
 obtain rfl:=Option.some.inj (gTabType.symm.trans ht')
 obtain⟨xs,m,_,hx,_,hlen,hel⟩:=DataW.trod_array mK hd
 simp only[Prod.mk.injEq] at hx
 have hx1:=hx.1
 rw[folData] at hx1
 simp only[DataW.agg.injEq] at hx1
 intro i j hi hj
 obtain⟨xi,hxi⟩: ∃xi,xs[i]? =some xi:=⟨xs[i]'(by omega),List.getElem?_eq_getElem (by omega)⟩
 have e1:=hel i hi
 rw[hxi,cellsIn] at e1
 obtain⟨ys,m2,_,hy,_,hlen2,hel2⟩:=DataW.trod_array mK e1
 obtain⟨yj,hyj⟩: ∃yj,ys[j]? =some yj:=⟨ys[j]'(by omega),List.getElem?_eq_getElem (by omega)⟩
 have e2:=hel2 j hj
 rw[hyj,cellsBool] at e2
 obtain⟨bb,hb,hyv⟩:=DataW.trod_bool mK e2
 have q1:(xs.map (·.1))[i]? =some xi.1:=by grind
 rw[←hx1] at q1
 have q2:xi.1= .agg ((List.range 5).map fun j=> .lit (.bool (fol i j))):=by
  grind
 rw[hy] at q2
 simp only[DataW.agg.injEq] at q2
 have q3:(ys.map (·.1))[j]? =some yj.1:=by grind
 rw[q2,List.getElem?_map,List.getElem?_range hj,hyv] at q3
 simp only[Option.map_some,Option.some.injEq,DataW.lit.injEq,Lit.bool.injEq] at q3
 have hc:cs.toList[i*5+j]? =some (.bool bb):=by
  have:=congrArg (·[0]?) hb
  grind
 grind[World.var?_cell]
section
variable {H:Type} {enc:TypeId×Value→H} {w:World} {base:Nat} {spare:Nat→Bool} {held:Bool}
end
end Go.Proofs.YtnmhcgpnhlhcgaaGreatDoor.Gt

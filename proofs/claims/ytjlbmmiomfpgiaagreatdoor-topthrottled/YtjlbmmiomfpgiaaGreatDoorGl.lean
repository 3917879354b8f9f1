/- YtjlbmmiomfpgiaaGreatDoorGl: of the texts C1 C2 C3 C4 C5 C6 C7 C8 C13 C14 C15 C16 T1 T2 T3 T4 T5 T6 T12 what is wanted. -/
import Derived.Test.YtjlbmmiomfpgiaaGreatDoorG0
import Derived.Test.YtjlbmmiomfpgiaaGreatDoorChecked
import Derived.WalkKit
import Derived.ProofKit
import Derived.Below
import Derived.Carry
import Derived.Laws.OwnMore
import Derived.Maps.AppendAt
import Derived.Deep.AppendLies
import Derived.Deep.RegionHeld3
import Derived.Lib.SmallJoins
import Derived.OneCell
import Derived.Lib.BitFns
import Derived.LoopIn
import Derived.LoopNIn
import Derived.OrdersHeld
import Derived.OrdersIn
import Derived.OwnWalkIn
import Derived.RangeFuncBound
import Derived.RangeFuncBox
import Derived.RangeFuncCalls
import Derived.RangeFuncLeaves
import Derived.RangeFuncNested
import Derived.Shelf.Abstract
import Derived.Shelf.RegionOpen
import Derived.TacticsInMore
import Derived.Test.YtjlbmmiomfpgiaaGreatDoorRows
import Derived.WalkSpells
import Derived.WalkLawsBesides
import Derived.StillTactics
import Derived.RegionTactic
import Derived.RowKit3
import Derived.Laws.MakeOwn
import Derived.OwnWalk
import Derived.Deep.QuietTactic
import Derived.BigQuiet
import Derived.Deep.DrawnRows
import Derived.OpenShut
import Derived.Deep.Slices
import Derived.Deep.Strs
import Derived.ChangeOld
import Derived.ChangeSame
import Derived.Lib.LaidTab
set_option maxHeartbeats 16000000
set_option maxRecDepth 100000
set_option linter.unusedVariables false
set_option linter.unusedSimpArgs false
namespace Go.Proofs.YtjlbmmiomfpgiaaGreatDoor.Cb
open Go.RowKit Go.Lib
theorem aa {p:Prop} (h:p):Hid p:=h
structure Fr (S:Nat→Prop) (w w':World):Prop where
 os:w'.os=w.os
 tape:w'.tape=w.tape
 output:w'.output=w.output
 size:w.heap.size≤w'.heap.size
 block: ∀k,k<w.heap.size→ ¬S k→w'.heap[k]? =w.heap[k]?
section
variable {S S':Nat→Prop} {w w' w'':World}
theorem Fr.refl (S:Nat→Prop) (w:World):Fr S w w:=⟨rfl,rfl,rfl,Nat.le_refl _,fun _ _ _=>rfl⟩
theorem Fr.wide (h:Fr S w w') (hs: ∀k,k<w.heap.size→S k→S' k):Fr S' w w':=⟨h.os,h.tape,h.output,h.size,fun k hk hn=>h.block k hk (fun q=>hn (hs k hk q))⟩
theorem Fr.trans (h:Fr S w w') (h':Fr S w' w''):Fr S w w'':=
 ⟨h'.os.trans h.os,h'.tape.trans h.tape,h'.output.trans h.output,Nat.le_trans h.size h'.size,fun k hk hn=>(h'.block k (Nat.lt_of_lt_of_le hk h.size) hn).trans (h.block k hk hn)⟩
theorem Fr.setCell (h:Fr S w w') {a:Addr} (hb:S a.block) (u:Value):Fr S w (w'.setCell a u):=
 ⟨h.os,h.tape,h.output,by simpa using h.size,fun k hk hn=>(Below.heap_setCell _ _ _ _ (fun e=>hn (by rw[e];exact hb))).trans (h.block k hk hn)⟩
theorem Fr.aC (h:Below w.heap.size w w'):Fr S w w':=⟨h.os,h.tape,h.output,h.size,fun k hk _=>h.block k hk⟩
theorem Fr.xu {row:Option Nat} (h:w.grownBy w' row):Fr (fun k=>some k=row) w w':=⟨h.os,h.tape,h.output,h.size,h.block⟩
end
structure bL where
 b:Nat
 p:Nat
 l:Nat
 d:Nat
def bL.ok (x:bL):Prop:=1≤x.b∧x.b≤x.p∧232792560%x.p=0∧x.l≤x.b∧x.d<18446744073709551616
theorem bL.ok.pos {x:bL} (h:x.ok):0<x.p:=by have:=h.1;have:=h.2.1;omega
theorem bL.ok.le {x:bL} (h:x.ok):x.p≤232792560:=Nat.le_of_dvd (by decide) (Nat.dvd_of_mod_eq_zero h.2.2.1)
def asks (x:bL):Nat:=x.b*(232792560/x.p)
def cW (L:List bL):Nat:=(L.map asks).sum
theorem kN {x:bL} (h:x.ok):asks x≤232792560:=by
 unfold asks
 refine Nat.le_trans (Nat.mul_le_mul_right _ h.2.1) ?_
 exact Nat.mul_div_le 232792560 x.p
theorem iF {L:List bL} (h: ∀x∈L,x.ok):cW L≤L.length*232792560:=by
 induction L with
 |nil=>simp[cW]
 |cons x L ih=>
  have h1:=kN (h x (by simp))
  have h2:=ih (fun y hy=>h y (by simp[hy]))
  simp only[cW,List.map_cons,List.sum_cons,List.length_cons] at h2⊢
  omega
structure kE (P:Nat) (L:List bL):Prop where
 p1:1≤P
 p2:P≤64
 all: ∀x∈L,x.ok
 len:L.length≤32
def dO (a b:Nat):Nat:=if a+b≤18446744073709551615 then a+b else 18446744073709551615
def dA (x:bL) (now:Nat):bL:=⟨x.b,x.p,x.b,dO now x.p⟩
theorem aR {w:World} {base:Nat} {e:TypeId} {size g n cap:Nat} {xs:List Value} (h:w.ownsRow base e size (.slice (some ⟨g,0,none⟩) n cap) n xs) (k:Nat) (hk:k<n*size) (u:Value):
  (w.setCell ⟨g,k,none⟩ u).ownsRow base e size (.slice (some ⟨g,0,none⟩) n cap) n (xs.set k u):=by
 refine⟨by simpa using h.1,?_⟩
 rcases h.2 with ⟨e1,_⟩|⟨g',cap',cur,e1,h0,h1,h2,h3,h4,h5⟩
 ·simp at e1
 ·simp at e1
  obtain⟨rfl,rfl⟩:=e1
  refine .inr ⟨g,cap,cur.setIfInBounds k u,rfl,h0,?_,h2,h3,by simpa using h4,?_⟩
  ·exact Go.Joins.block_setCell h1 u
  ·rw[←h5]
   simp[List.take_set]
theorem dG {w:World} {base:Nat} {e:TypeId} {size g n cap:Nat} {xs:List Value} (h:w.ownsRow base e size (.slice (some ⟨g,0,none⟩) n cap) n xs) (k:Nat):w.frozen? ⟨g,k,none⟩=false:=by
 rcases h.2 with ⟨e1,_⟩|⟨g',cap',cur,e1,h0,h1,h2,h3,h4,h5⟩
 ·simp at e1
 ·simp at e1
  obtain⟨rfl,rfl⟩:=e1
  unfold World.frozen?
  simp[h1]
theorem a7 {w:World} {base:Nat} {e:TypeId} {size:Nat} {v:Value} {n:Nat} {xs:List Value} (h:w.ownsRow base e size v n xs) {w':World} (hh: ∀k,v.ownBlock=some k→w'.heap[k]? =w.heap[k]?):w'.ownsRow base e size v n xs:=by
 refine⟨h.1,?_⟩
 rcases h.2 with hn|⟨g,cap,cur,rfl,hb,hgg,rest⟩
 ·exact .inl hn
 ·exact .inr ⟨g,cap,cur,rfl,hb,(hh g rfl).trans hgg,rest⟩
theorem ay {w:World} {base:Nat} {e:TypeId} {size:Nat} {v:Value} {n:Nat} {xs:List Value} (h:w.ownsRow base e size v n xs) {k:Nat} (hk:v.ownBlock=some k):base≤k∧k<w.heap.size∧ ∃cur,w.heap[k]? =some (.cells cur e (0,0)):=by
 rcases h.2 with ⟨rfl,_⟩|⟨g,cap,cur,rfl,hb,hgg,rest⟩
 ·simp[Value.ownBlock] at hk
 ·simp[Value.ownBlock] at hk
  subst hk
  exact⟨hb,(Array.getElem?_eq_some_iff.1 hgg).1,cur,hgg⟩
def iX (x:bL):List Value:=[.int .u64 (x.b:Int),.int .u64 (x.p:Int),.int .u64 (x.l:Int),.int .u64 (x.d:Int)]
def aK (L:List bL):List Value:=L.flatMap iX
theorem eY (x:bL) (L:List bL):aK (x::L)=iX x++aK L:=rfl
theorem mH (L M:List bL):aK (L++M)=aK L++aK M:=by unfold aK;rw[List.flatMap_append]
theorem dJ: ∀(L:List bL) (i:Nat) (x:bL),L[i]? =some x→(aK L)[i*4]? =some (.int .u64 (x.b:Int))∧(aK L)[i*4+1]? =some (.int .u64 (x.p:Int))∧(aK L)[i*4+2]? =some (.int .u64 (x.l:Int))∧(aK L)[i*4+3]? =some (.int .u64 (x.d:Int))
 |[],i,x,h=>by simp at h
 |y::L,0,x,h=>by
  simp at h
  subst h
  exact⟨rfl,rfl,rfl,rfl⟩
 |y::L,i+1,x,h=>by
  have:=dJ L i x (by simpa using h)
  rw[eY,show(i+1)*4=i*4+4 by omega]
  exact this
theorem iH: ∀(L:List bL) (i:Nat) (x:bL),i<L.length→aK (L.set i x)=((((aK L).set (i*4) (.int .u64 (x.b:Int))).set (i*4+1) (.int .u64 (x.p:Int))).set (i*4+2) (.int .u64 (x.l:Int))).set (i*4+3) (.int .u64 (x.d:Int))
 |[],i,x,h=>by simp at h
 |y::L,0,x,h=>by simp[eY,iX]
 |y::L,i+1,x,h=>by
  have:=iH L i x (by simpa using h)
  rw[List.set_cons_succ,eY,this,eY,show(i+1)*4=i*4+4 by omega]
  rfl
structure cE (w:World) (base s P:Nat) (v:Value) (L:List bL):Prop where
 blk:w.heap[s]? =some (.cells #[.int .u64 (P:Int),v] 137 (0,0))
 own:w.ownsRow base 165 4 v L.length (aK L)
 bs:base≤w.heap.size
 f:kE P L
section
variable {w w':World} {base s P:Nat} {v:Value} {L:List bL}
theorem cE.lt (h:cE w base s P v L):s<w.heap.size:=(Array.getElem?_eq_some_iff.1 h.blk).1
theorem cE.ne (h:cE w base s P v L):v.ownBlock≠some s:=by
 intro q
 obtain⟨_,_,cur,e⟩:=ay h.own q
 rw[h.blk] at e
 simp at e
theorem cE.c0 (h:cE w base s P v L):w.cell? ⟨s,0,none⟩=some (.int .u64 (P:Int)):=by unfold World.cell?;simp[h.blk]
theorem cE.c1 (h:cE w base s P v L):w.cell? ⟨s,1,none⟩=some v:=by unfold World.cell?;simp[h.blk]
theorem cE.form (h:cE w base s P v L): ∃a cap,v= .slice a L.length cap∧L.length≤cap∧cap≤maxLen:=by
 rcases h.own.2 with ⟨e,e0⟩|⟨g,cap,cur,e,_,_,h1,h2,_⟩
 ·exact⟨none,0,by rw[e,e0],by omega,by simp[maxLen]⟩
 ·exact⟨_,cap,e,h1,h2⟩
theorem cE.cells (h:cE w base s P v L) (hL:0<L.length): ∃g cap,v= .slice (some ⟨g,0,none⟩) L.length cap∧L.length≤cap∧cap≤maxLen∧g<w.heap.size∧g≠s∧(∀k,w.frozen? ⟨g,k,none⟩=false)∧
  (∀j x,L[j]? =some x→w.cell? ⟨g,j*4,none⟩=some (.int .u64 (x.b:Int))∧w.cell? ⟨g,j*4+1,none⟩=some (.int .u64 (x.p:Int))∧w.cell? ⟨g,j*4+2,none⟩=some (.int .u64 (x.l:Int))∧w.cell? ⟨g,j*4+3,none⟩=some (.int .u64 (x.d:Int))):=by
 have hne:=h.ne
 rcases h.own.2 with ⟨e,e0⟩|⟨g,cap,cur,e,h0,hg,h1,h2,_⟩
 ·omega
 ·have hown:=h.own
  subst e
  refine⟨g,cap,rfl,h1,h2,(Array.getElem?_eq_some_iff.1 hg).1,fun q=>hne (by rw[q];rfl),dG hown,fun j x hj=> ?_⟩
  have hjl:j<L.length:=(List.getElem?_eq_some_iff.1 hj).1
  rw[hown.cellAt (j*4) (by omega),hown.cellAt (j*4+1) (by omega),hown.cellAt (j*4+2) (by omega),hown.cellAt (j*4+3) (by omega)]
  exact dJ L j x hj
theorem cE.kept (h:cE w base s P v L) (h0:w.heap.size≤w'.heap.size) (h1:w'.heap[s]? =w.heap[s]?) (h2: ∀k,v.ownBlock=some k→w'.heap[k]? =w.heap[k]?):cE w' base s P v L:=
 ⟨h1.trans h.blk,a7 h.own h2,Nat.le_trans h.bs h0,h.f⟩
theorem cE.frame {S:Nat→Prop} (h:cE w base s P v L) (hf:Fr S w w') (h1: ¬S s) (h2: ∀k,v.ownBlock=some k→ ¬S k):cE w' base s P v L:=
 h.kept hf.size (hf.block s h.lt h1) (fun k hk=>hf.block k (ay h.own hk).2.1 (h2 k hk))
theorem cE.below (h:cE w base s P v L) (hf:Below w.heap.size w w'):cE w' base s P v L:=
 h.frame (Fr.aC (S:=fun _=>False) hf) id (fun _ _=>id)
theorem cE.eI (h:cE w base s P v L) (a:w'.heap=w.heap):cE w' base s P v L:=h.kept (by rw[a];exact Nat.le_refl _) (by rw[a]) (fun k _=>by rw[a])
theorem cE.stored {v':Value} {L':List bL} (hb:w.heap[s]? =some (.cells #[.int .u64 (P:Int),v] 137 (0,0)))
  (hown:w.ownsRow base 165 4 v' L'.length (aK L')) (hbs:base≤w.heap.size) (hf:kE P L'):cE (w.setCell ⟨s,1,none⟩ v') base s P v' L':=by
 have hne:v'.ownBlock≠some s:=by
  intro q
  obtain⟨_,_,cur,e⟩:=ay hown q
  rw[hb] at e
  simp at e
 exact⟨Go.Joins.block_setCell hb v',ownsRow_setCell_other hown hne v',by simpa using hbs,hf⟩
end
section
variable {w w':World} {base s P:Nat} {v:Value} {L:List bL}
end
theorem lz (z:Int) (h0:0≤z) (h1:z<18446744073709551616):IntKind.u64.wrap z=z:=by
 unfold IntKind.wrap
 simp[IntKind.bits,IntKind.signed]
 omega
def fo (b p:Nat):Bool:=decide (1≤b∧b≤p∧232792560%p=0)
theorem cm (w:World) (b p:Nat):Calls Tryz.prog 70 #[.agg #[.int .u64 (b:Int),.int .u64 (p:Int)]] w fun e w'=>e= .returned (.bool (fo b p))∧ ∃c,w'=w.alloc (.cells c 163):=by
 unfold fo
 by_cases h1:1≤b
 ·have g1:(1:Int)≤(b:Int):=by omega
  by_cases h2:b≤p
  ·have g2:(b:Int)≤(p:Int):=by omega
   have g3: ¬(p:Int)=0:=by omega
   have g4:((232792560%(p:Int))==0)=decide (232792560%p=0):=by
    have e:((232792560%p:Nat):Int)=232792560%(p:Int):=by simp
    rw[Bool.eq_iff_iff,beq_iff_eq,decide_eq_true_iff,←e,Int.natCast_eq_zero]
   go_enter Tryz.func70,Tryz.ntmps70
   go_wp2
   go_ret
   exact⟨by simp[h1,h2],_,rfl⟩
  ·have g2: ¬(b:Int)≤(p:Int):=by omega
   go_enter Tryz.func70,Tryz.ntmps70
   go_wp2
   go_ret
   exact⟨by simp,_,rfl⟩
 ·have g1: ¬(1:Int)≤(b:Int):=by omega
  go_enter Tryz.func70,Tryz.ntmps70
  go_wp2
  go_ret
  exact⟨by simp,_,rfl⟩
theorem oR (w:World) (x:bL) (hx:x.ok):Calls Tryz.prog 72 #[.agg #[.int .u64 (x.b:Int),.int .u64 (x.p:Int)]] w fun e w'=>e= .returned (.int .u64 (asks x:Int))∧ ∃c,w'=(w.alloc (.cells c 163)).drew:=by
 have g3: ¬(x.p:Int)=0:=by have:=hx.pos;omega
 have g5: ¬x.p=0:=by have:=hx.pos;omega
 have g4:IntKind.u64.wrap ((x.b:Int)*IntKind.u64.wrap (Int.tdiv 232792560 (x.p:Int)))=(asks x:Int):=by
  have h:=kN hx
  have e1:Int.tdiv 232792560 (x.p:Int)=((232792560/x.p:Nat):Int):=by rw[Int.tdiv_eq_ediv_of_nonneg (by decide)];simp
  have e2:232792560/x.p≤232792560:=Nat.div_le_self _ _
  have e3:IntKind.u64.wrap ((232792560/x.p:Nat):Int)=((232792560/x.p:Nat):Int):=by
   generalize 232792560/x.p=q at e2
   exact lz _ (by omega) (by omega)
  have e:(asks x:Int)=(x.b:Int)*((232792560/x.p:Nat):Int):=by unfold asks;simp
  rw[e1,e3,←e]
  exact lz _ (by omega) (by omega)
 go_enter Tryz.func72,Tryz.ntmps72
 go_wp2
 go_region_held3 (fun w'=>w'.cell? ⟨w.heap.size,0,none⟩=some (.int .u64 (x.b:Int))∧w'.cell? ⟨w.heap.size,1,none⟩=some (.int .u64 (x.p:Int)))
  (simp[go_sem])
  (first|fail)
 go_wp2
 go_ret
 exact⟨by simp,_,rfl⟩
theorem fU (w:World) (P:Nat) (h1:1≤P) (h2:P≤64):Calls Tryz.prog 32 #[.int .i64 (P:Int)] w fun e w'=>e= .returned (.pointer (some ⟨w.heap.size,0,none⟩))∧w'=w.alloc (.cells #[.int .u64 (P:Int),.slice none 0 0] 137):=by
 have g1: ¬(P:Int)<1:=by omega
 have g2: ¬(64:Int)<(P:Int):=by omega
 have g3:(P:Int)%18446744073709551616=P:=by omega
 go_enter Tryz.func32,Tryz.ntmps32
 go_wp2
 go_ret
 exact⟨rfl,rfl⟩
theorem jg (w:World) (x:bL) (now:Nat):Calls Tryz.prog 135 #[.agg #[.int .u64 (x.b:Int),.int .u64 (x.p:Int),.int .u64 (x.l:Int),.int .u64 (x.d:Int)],.int .u64 (now:Int)] w fun e w'=>e= .returned (.bool (decide (x.d≤now)))∧ ∃c,w'=w.alloc (.cells c 165):=by
 go_enter Tryz.func135,Tryz.ntmps135
 go_wp2
 go_ret
 exact⟨by simp,_,rfl⟩
theorem nT (w:World) (x:bL):Calls Tryz.prog 136 #[.agg #[.int .u64 (x.b:Int),.int .u64 (x.p:Int),.int .u64 (x.l:Int),.int .u64 (x.d:Int)]] w fun e w'=>e= .returned (.bool (x.d==0))∧ ∃c,w'=w.alloc (.cells c 165):=by
 go_enter Tryz.func136,Tryz.ntmps136
 go_wp2
 go_ret
 refine⟨?_,_,rfl⟩
 have h:(((x.d:Nat):Int)==0)=(x.d==0):=by rw[Bool.eq_iff_iff];simp
 simp[h]
theorem vT (a b:Nat) (w:World) (ha:a<18446744073709551616) (hb:b<18446744073709551616):
  Calls Tryz.prog 43 #[.int .u64 (a:Int),.int .u64 (b:Int)] w fun e w'=>e= .returned (.int .u64 (dO a b:Int))∧w'=w:=by
 unfold dO
 by_cases h:a+b≤18446744073709551615
 ·rw[if_pos h]
  have h': ¬(18446744073709551615:Int)-b<a:=by omega
  go_enter Tryz.func43,Tryz.ntmps43
  go_wp2
  go_ret
  exact⟨by simp,rfl⟩
 ·rw[if_neg h]
  have h':(18446744073709551615:Int)-b<a:=by omega
  go_enter Tryz.func43,Tryz.ntmps43
  go_wp2
  go_ret
  exact⟨rfl,rfl⟩
theorem nW (w:World) (x:bL) (now:Nat) (hx:x.ok) (hn:now<18446744073709551616):Calls Tryz.prog 88 #[.agg #[.int .u64 (x.b:Int),.int .u64 (x.p:Int),.int .u64 (x.l:Int),.int .u64 (x.d:Int)],.int .u64 (now:Int)] w fun e w'=>e= .returned (.agg #[.int .u64 ((dA x now).b:Int),.int .u64 ((dA x now).p:Int),.int .u64 ((dA x now).l:Int),.int .u64 ((dA x now).d:Int)])∧ ∃c c',w'=((w.alloc (.cells c 165)).alloc (.cells c' 165)).drew:=by
 have HA:=aa (fun w=>vT now x.p w hn (by have:=hx.le;omega))
 go_enter Tryz.func88,Tryz.ntmps88
 go_wp2
 go_region_held3 (fun w'=>w'.cell? ⟨w.heap.size,0,none⟩=some (.int .u64 (x.b:Int))∧w'.cell? ⟨w.heap.size,1,none⟩=some (.int .u64 (x.p:Int)))
  (first|simp[go_sem]|simp[go_sem,World.cell?_alloc_past])
  (first|(go_at_call 43;refine(HA.out _).mono ?_;rintro e w1 ⟨rfl,rfl⟩))
 go_wp2
 simp[bodyPost,results,Tryz.results88,go_sem,dA]
 exact⟨_,_,rfl⟩
section
variable {w:World} {base s P:Nat} {v:Value} {L:List bL}
theorem dy (h:cE w base s P v L) (i:Int):Calls Tryz.prog 131 #[.pointer (some ⟨s,0,none⟩),.int .i64 i] w fun e w'=>e= .returned (.bool (decide (0≤i∧i<(L.length:Int))))∧w'=w:=by
 obtain⟨a,cap,rfl,_,_⟩:=h.form
 have c1:=h.c1
 clear h
 by_cases h0:0≤i
 ·go_enter Tryz.func131,Tryz.ntmps131
  go_wp2
  go_ret
  exact⟨by simp[h0],rfl⟩
 ·go_enter Tryz.func131,Tryz.ntmps131
  go_wp2
  go_ret
  exact⟨by simp;omega,rfl⟩
theorem Cg (h:cE w base s P v L):Calls Tryz.prog 50 #[.pointer (some ⟨s,0,none⟩)] w fun e w'=>e= .returned (.int .i64 (L.length:Int))∧w'=w:=by
 obtain⟨a,cap,rfl,_,_⟩:=h.form
 have c1:=h.c1
 clear h
 go_enter Tryz.func50,Tryz.ntmps50
 go_wp2
 go_ret
 exact⟨rfl,rfl⟩
def iC (L:List bL) (i:Int):bL:=if 0≤i∧i<(L.length:Int) then(L[i.toNat]?).getD ⟨0,0,0,0⟩ else⟨0,0,0,0⟩
theorem wD (h:cE w base s P v L) (i:Int):Calls Tryz.prog 80 #[.pointer (some ⟨s,0,none⟩),.int .i64 i] w fun e w'=>e= .returned (.agg #[.int .u64 ((iC L i).b:Int),.int .u64 ((iC L i).p:Int),.int .u64 ((iC L i).l:Int),.int .u64 ((iC L i).d:Int)])∧ ∃c,w'=w.alloc (.cells c 165):=by
 unfold iC
 by_cases hi:0≤i∧i<(L.length:Int)
 ·rw[if_pos hi]
  obtain⟨k,rfl⟩: ∃k:Nat,i=k:=⟨i.toNat,by omega⟩
  have hk:k<L.length:=by omega
  obtain⟨x,hx⟩: ∃x,L[k]? =some x:=⟨_,List.getElem?_eq_getElem hk⟩
  have HH:=aa (fun w' (hb:Below w.heap.size w w')=>dy (h.below hb) (k:Int))
  simp only[decide_eq_true hi] at HH
  obtain⟨g,cap,rfl,hc1,hc2,hg,hgs,_,hc⟩:=h.cells (by omega)
  obtain⟨y0,y1,y2,y3⟩:=hc k x hx
  have c1:=h.c1
  have hs:=h.lt
  simp only[Int.toNat_natCast,hx,Option.getD_some]
  clear h hc hi
  go_enter Tryz.func80,Tryz.ntmps80
  go_wp2_with (go_at_call 131;refine(HH.out _ ((Below.refl _ _).alloc (Nat.le_refl _) _)).mono ?_;rintro e w1 ⟨rfl,hw⟩;subst hw)
  simp[bodyPost,results,Tryz.results80,go_sem]
  exact⟨_,rfl⟩
 ·rw[if_neg hi]
  have HH:=aa (fun w' (hb:Below w.heap.size w w')=>dy (h.below hb) i)
  simp only[decide_eq_false hi] at HH
  clear h hi
  go_enter Tryz.func80,Tryz.ntmps80
  go_wp2_with (go_at_call 131;refine(HH.out _ ((Below.refl _ _).alloc (Nat.le_refl _) _)).mono ?_;rintro e w1 ⟨rfl,hw⟩;subst hw)
  simp[bodyPost,results,Tryz.results80,go_sem]
  exact⟨_,rfl⟩
end
@[go_sem] theorem sJ (a b c d : Int) (w : World) : (Instr.field 165 (.agg #[.int .u64 a, .int .u64 b, .int .u64 c, .int .u64 d]) 1).run Tryz.prog w = .ok (.int .u64 c) w := by kernel_rfl
@[go_sem] theorem CW (a b c d : Int) (w : World) : (Instr.field 165 (.agg #[.int .u64 a, .int .u64 b, .int .u64 c, .int .u64 d]) 2).run Tryz.prog w = .ok (.int .u64 d) w := by kernel_rfl
section
variable {w:World} {base s P:Nat} {v:Value} {L:List bL}
theorem zh (h:cE w base s P v L) (i:Int):Calls Tryz.prog 41 #[.pointer (some ⟨s,0,none⟩),.int .i64 i] w fun e w'=>e= .returned (.int .u64 ((iC L i).l:Int))∧ ∃c,w'=w.alloc (.cells c 165):=by
 have HA:=aa (wD h i)
 clear h
 go_enter Tryz.func41,Tryz.ntmps41
 go_wp2_with (go_at_call 80;refine(HA.out).mono ?_;rintro e w1 ⟨rfl,c,rfl⟩)
 go_ret
 exact⟨rfl,_,rfl⟩
theorem pD (h:cE w base s P v L) (i:Int):Calls Tryz.prog 58 #[.pointer (some ⟨s,0,none⟩),.int .i64 i] w fun e w'=>e= .returned (.int .u64 ((iC L i).d:Int))∧ ∃c,w'=w.alloc (.cells c 165):=by
 have HA:=aa (wD h i)
 clear h
 go_enter Tryz.func58,Tryz.ntmps58
 go_wp2_with (go_at_call 80;refine(HA.out).mono ?_;rintro e w1 ⟨rfl,c,rfl⟩)
 go_ret
 exact⟨rfl,_,rfl⟩
theorem vh (h:cE w base s P v L) (i:Int):Calls Tryz.prog 127 #[.pointer (some ⟨s,0,none⟩),.int .i64 i] w fun e w'=>e= .returned (.bool (decide (0<(iC L i).l)))∧ ∃c,w'=w.alloc (.cells c 165):=by
 have HA:=aa (wD h i)
 clear h
 go_enter Tryz.func127,Tryz.ntmps127
 go_wp2_with (go_at_call 80;refine(HA.out).mono ?_;rintro e w1 ⟨rfl,c,rfl⟩)
 go_ret
 exact⟨by simp,_,rfl⟩
theorem wi (L:List bL) (j:Nat) (x:bL) (h:L[j]? =some x):cW (L.take (j+1))=cW (L.take j)+asks x:=by
 unfold cW
 rw[List.take_add_one,h]
 simp
theorem yO (h:cE w base s P v L):Calls Tryz.prog 71 #[.pointer (some ⟨s,0,none⟩)] w fun e w'=>e= .returned (.int .u64 (cW L:Int))∧Below w.heap.size w w':=by
 have HP:=aa h
 obtain⟨a,cap,rfl,_,_⟩:=h.form
 have c1:=h.c1
 have hlen:=h.f.len
 clear h
 go_enter Tryz.func71,Tryz.ntmps71
 go_wp2
 go_loopw [3,13] (fun sm i wr=> ∃(j:Nat),j≤L.length∧i= .int .i64 j∧sm= .int .u64 (cW (L.take j):Int)∧Below w.heap.size w wr) (fun _ i _=>L.length-(intOf i).toNat)
 case atStart=>exact⟨0,by omega,rfl,rfl,Below.refl _ _⟩
 case round=>
  obtain⟨j,hj,rfl,rfl,hbel⟩:=hrel
  by_cases hjl:j<L.length
  ·have hjl':(j:Int)<(L.length:Int):=by omega
   obtain⟨x,hx⟩: ∃x,L[j]? =some x:=⟨_,List.getElem?_eq_getElem hjl⟩
   obtain⟨g,cap',e,_,_,hg,_,_,hc⟩:=(HP.out.below hbel).cells (by omega)
   simp at e
   obtain⟨rfl,rfl⟩:=e
   obtain⟨y0,y1,y2,y3⟩:=hc j x hx
   have hok:=HP.out.f.all x (List.mem_of_getElem? hx)
   have HA:=aa (fun w=>oR w x hok)
   have hs:=wi L j x hx
   have hle:cW (L.take (j+1))≤32*232792560:=by
    refine Nat.le_trans (iF (fun y hy=>HP.out.f.all y (List.mem_of_mem_take hy))) ?_
    have:(L.take (j+1)).length≤L.length:=List.length_take_le' _ _
    omega
   have hw:IntKind.u64.wrap ((cW (L.take j):Int)+(asks x:Int))=(cW (L.take (j+1)):Int):=by
    rw[hs] at hle⊢
    rw[lz _ (by omega) (by omega)]
    simp
   have HW:=aa hw
   have hw':((cW (L.take j):Int)+(asks x:Int))%18446744073709551616=(cW (L.take (j+1)):Int):=by
    rw[hs] at hle⊢
    push_cast
    omega
   have HB:=aa hbel
   clear hc hbel hs hle hok hw
   go_wp2_with (go_at_call 72;refine(HA.out _).mono ?_;rintro e w2 ⟨rfl,c,rfl⟩)
   go_roundw
   case rel=>exact⟨j+1,by omega,by go_num,by first|rfl|simp[HW.out],((HB.out.alloc HB.out.size _).alloc (by have:=HB.out.size;simp;omega) _).drew⟩
   case measure=>simp[intOf];omega
  ·have hjl': ¬(j:Int)<(L.length:Int):=by omega
   obtain rfl:j=L.length:=by omega
   have HB:=aa hbel
   clear hbel
   go_wp2
   go_ret
   exact⟨by simp,HB.out⟩
theorem cE.put (h:cE w base s P v L) {g cap k:Nat} (hv:v= .slice (some ⟨g,0,none⟩) L.length cap) (hk:k<L.length) (x:bL) (hx:x.ok):
  cE ((((w.setCell ⟨g,k*4,none⟩ (.int .u64 (x.b:Int))).setCell ⟨g,k*4+1,none⟩ (.int .u64 (x.p:Int))).setCell ⟨g,k*4+2,none⟩ (.int .u64 (x.l:Int))).setCell ⟨g,k*4+3,none⟩ (.int .u64 (x.d:Int))) base s P v (L.set k x):=by
 have hne:=h.ne
 subst hv
 have hgs: ¬s=g:=fun q=>hne (by rw[q];rfl)
 have h1:=aR (aR (aR (aR h.own (k*4) (by omega) (.int .u64 (x.b:Int))) (k*4+1) (by omega) (.int .u64 (x.p:Int))) (k*4+2) (by omega) (.int .u64 (x.l:Int))) (k*4+3) (by omega) (.int .u64 (x.d:Int))
 rw[←iH L k x hk] at h1
 refine⟨?_,by simpa using h1,by simpa using h.bs,⟨h.f.p1,h.f.p2,?_,by simpa using h.f.len⟩⟩
 ·rw[Below.heap_setCell _ _ _ _ hgs,Below.heap_setCell _ _ _ _ hgs,Below.heap_setCell _ _ _ _ hgs,Below.heap_setCell _ _ _ _ hgs]
  exact h.blk
 ·intro y hy
  rcases List.mem_or_eq_of_mem_set hy with q|q
  ·exact h.f.all y q
  ·rw[q];exact hx
end
theorem tG (a b:Nat):dO a b<18446744073709551616:=by unfold dO;split<;>omega
theorem sZ {x:bL} (h:x.ok) (now:Nat):(dA x now).ok:=⟨h.1,h.2.1,h.2.2.1,Nat.le_refl _,tG _ _⟩
theorem lS {xs:List Value} {k:Nat} {u:Value} (h:xs[k]? =some u):xs.set k u=xs:=by
 apply List.ext_getElem?
 intro i
 rw[List.getElem?_set]
 have hk:=(List.getElem?_eq_some_iff.1 h).1
 by_cases q:k=i
 ·subst q;rw[if_pos rfl,if_pos hk,h]
 ·simp[q]
theorem wT (n:Nat):((n:Int)==0)=(n==0):=by rw[Bool.eq_iff_iff];simp
theorem ml {S:Nat→Prop} {w w1:World} (hb:Below w.heap.size w w1) (g k0 k1 k2 k3:Nat) (u0 u1 u2 u3:Value) (hS:S g):Fr S w ((((w1.setCell ⟨g,k0,none⟩ u0).setCell ⟨g,k1,none⟩ u1).setCell ⟨g,k2,none⟩ u2).setCell ⟨g,k3,none⟩ u3):=
 ((((Fr.aC hb).setCell (a:=⟨g,k0,none⟩) hS _).setCell (a:=⟨g,k1,none⟩) hS _).setCell (a:=⟨g,k2,none⟩) hS _).setCell (a:=⟨g,k3,none⟩) hS _
section
variable {w:World} {base s P:Nat} {v:Value} {L:List bL}
theorem cE.one {g cap:Nat} (h:cE w base s P (.slice (some ⟨g,0,none⟩) L.length cap) L) {k:Nat} {x:bL} (hx:L[k]? =some x):
  w.cell? ⟨s,1,none⟩=some (.slice (some ⟨g,0,none⟩) L.length cap)∧w.cell? ⟨g,k*4,none⟩=some (.int .u64 (x.b:Int))∧w.cell? ⟨g,k*4+1,none⟩=some (.int .u64 (x.p:Int))∧w.cell? ⟨g,k*4+2,none⟩=some (.int .u64 (x.l:Int))∧w.cell? ⟨g,k*4+3,none⟩=some (.int .u64 (x.d:Int))∧
  w.frozen? ⟨g,k*4,none⟩=false∧w.frozen? ⟨g,k*4+1,none⟩=false∧w.frozen? ⟨g,k*4+2,none⟩=false∧w.frozen? ⟨g,k*4+3,none⟩=false:=by
 have hk:k<L.length:=(List.getElem?_eq_some_iff.1 hx).1
 obtain⟨g',cap',e,_,_,_,_,hf,hc⟩:=h.cells (by omega)
 simp at e
 obtain⟨rfl,rfl⟩:=e
 obtain⟨y0,y1,y2,y3⟩:=hc k x hx
 exact⟨h.c1,y0,y1,y2,y3,hf _,hf _,hf _,hf _⟩
theorem rO (h:cE w base s P v L) (i:Int) (now:Nat) (hi: ¬(0≤i∧i<(L.length:Int))):Calls Tryz.prog 90 #[.pointer (some ⟨s,0,none⟩),.int .i64 i,.int .u64 (now:Int)] w fun e w'=>e= .returned (.int .i64 2)∧w'=w:=by
 have HH:=aa (dy h i)
 rw[decide_eq_false hi] at HH
 clear h hi
 go_enter Tryz.func90,Tryz.ntmps90
 go_wp2_with (go_at_call 131;refine(HH.out).mono ?_;rintro e w1 ⟨rfl,hw⟩;subst hw)
 go_ret
 exact⟨rfl,rfl⟩
theorem yd (h:cE w base s P v L) (k now:Nat) (x:bL) (hx:L[k]? =some x) (hd: ¬x.d≤now):Calls Tryz.prog 90 #[.pointer (some ⟨s,0,none⟩),.int .i64 (k:Int),.int .u64 (now:Int)] w fun e w'=>e= .returned (.int .i64 0)∧Below w.heap.size w w':=by
 have hk:k<L.length:=(List.getElem?_eq_some_iff.1 hx).1
 have HH:=aa (dy h k)
 rw[decide_eq_true (by omega)] at HH
 have HO:=aa (fun w=>jg w x now)
 simp only[decide_eq_false hd] at HO
 obtain⟨g,cap,rfl,hc1,hc2,hg,hgs,hfz,hc⟩:=h.cells (by omega)
 obtain⟨y0,y1,y2,y3⟩:=hc k x hx
 have c1:=h.c1
 clear h hc hd
 go_enter Tryz.func90,Tryz.ntmps90
 go_wp2_with (first
  |(go_at_call 131;refine(HH.out).mono ?_;rintro e w1 ⟨rfl,hw⟩;replace hw:=hw.symm;subst hw)
  |(go_at_call 135;refine(HO.out _).mono ?_;rintro e w1 ⟨rfl,c,rfl⟩))
 go_ret
 exact⟨rfl,(Below.refl _ _).alloc (Nat.le_refl _) _⟩
theorem wv (h:cE w base s P v L) (k now:Nat) (x:bL) (hx:L[k]? =some x) (hd:x.d≤now) (hn:now<18446744073709551616):Calls Tryz.prog 90 #[.pointer (some ⟨s,0,none⟩),.int .i64 (k:Int),.int .u64 (now:Int)] w fun e w'=>e= .returned (.int .i64 0)∧cE w' base s P v (L.set k (dA x now))∧Fr (fun k=>some k=v.ownBlock) w w':=by
 have hk:k<L.length:=(List.getElem?_eq_some_iff.1 hx).1
 have HH:=aa (dy h k)
 rw[decide_eq_true (by omega)] at HH
 have HO:=aa (fun w=>jg w x now)
 simp only[decide_eq_true hd] at HO
 have hok:=h.f.all x (List.mem_of_getElem? hx)
 have HF:=aa (fun w=>nW w x now hok hn)
 have HE:Hid (∀w1,Below w.heap.size w w1→cE w1 base s P v L):=fun w1 hb=>h.below hb
 have HX:=aa (sZ hok now)
 obtain⟨g,cap,hv,hc1,hc2,hg,hgs,hfz,hc⟩:=h.cells (by omega)
 subst hv
 obtain⟨y0,y1,y2,y3⟩:=hc k x hx
 have c1:=h.c1
 have f0:=hfz (k*4)
 have f1:=hfz (k*4+1)
 have f2:=hfz (k*4+2)
 have f3:=hfz (k*4+3)
 have hs:=h.lt
 clear h hc hd hok hfz
 go_enter Tryz.func90,Tryz.ntmps90
 go_wp2_with (first
  |(go_at_call 131;refine(HH.out).mono ?_;rintro e w1 ⟨rfl,hw⟩;replace hw:=hw.symm;subst hw)
  |(go_at_call 135;refine(HO.out _).mono ?_;rintro e w1 ⟨rfl,c,rfl⟩))
 refine wp_region_held_drew (S:=(fun w'=>w'.cell? ⟨s,1,none⟩=some (.slice (some ⟨g,0,none⟩) L.length cap))) (by kernel_rfl) ?_ (fun hHeld=> ?_)
 ·simp[go_sem,c1,hs]
 refine aH 0 (v:= ?_) rfl ?v0 ?_
 case v0=>(intro w hSw;(try dsimp only at hSw);go_simp;try with_reducible rfl)
 try simp only[aq]
 refine aH 1 (v:= ?_) rfl ?v1 ?_
 case v1=>(intro w hSw;(try dsimp only at hSw);go_simp;try with_reducible rfl)
 try simp only[aq]
 refine aH 2 (v:= ?_) rfl ?v2 ?_
 case v2=>(intro w hSw;(try dsimp only at hSw);go_simp;try with_reducible rfl)
 try simp only[aq]
 refine aH 3 (v:= ?_) rfl ?v3 ?_
 case v3=>(intro w hSw;(try dsimp only at hSw);go_simp;try with_reducible rfl)
 try simp only[aq]
 refine aH 4 (v:= ?_) rfl ?v4 ?_
 case v4=>(intro w hSw;(try dsimp only at hSw);go_simp;try with_reducible rfl)
 try simp only[aq]
 refine aH 5 (v:= ?_) rfl ?v5 ?_
 case v5=>(intro w hSw;(try dsimp only at hSw);go_simp;try with_reducible rfl)
 try simp only[aq]
 refine aH 6 (v:= ?_) rfl ?v6 ?_
 case v6=>(intro w hSw;(try dsimp only at hSw);go_simp;try with_reducible rfl)
 try simp only[aq]
 refine aH 7 (v:= ?_) rfl ?v7 ?_
 case v7=>(intro w hSw;(try dsimp only at hSw);go_simp;try with_reducible rfl)
 try simp only[aq]
 refine aH 8 (v:= ?_) rfl ?v8 ?_
 case v8=>(intro w hSw;(try dsimp only at hSw);go_simp;try with_reducible rfl)
 try simp only[aq]
 refine aH 9 (v:= ?_) rfl ?v9 ?_
 case v9=>(intro w hSw;(try dsimp only at hSw);go_simp;try with_reducible rfl)
 try simp only[aq]
 refine aH 10 (v:= ?_) rfl ?v10 ?_
 case v10=>(intro w hSw;(try dsimp only at hSw);go_simp;try with_reducible rfl)
 try simp only[aq]
 refine aH 12 (v:= ?_) rfl ?v12 ?_
 case v12=>(intro w hSw;(try dsimp only at hSw);go_simp;try with_reducible rfl)
 try simp only[aq]
 refine a8 11 rfl (fun K hK=> ?_)
 go_simp
 refine hK.out _ _ ?_ (fun hHeld=> ?_)
 ·go_keep
 clear hK K
 try simp only[aq]
 refine a8 13 rfl (fun K hK=> ?_)
 go_simp
 refine(HF.out _).mono ?_
 rintro e w1 ⟨rfl,c',c2,hw⟩
 have hb:Below w.heap.size w w1:=by rw[hw];exact(((((Below.refl _ _).alloc (Nat.le_refl _) _).drew).alloc (by simp) _).alloc (by simp;omega) _).drew
 clear hw
 have HP1:=aa (HE.out _ hb)
 have HB:=aa hb
 obtain⟨z1,y0',y1',y2',y3',f0',f1',f2',f3'⟩:=HP1.out.one hx
 clear hb
 go_wp2_with fail
 refine hK.out _ _ ?_ (fun hHeld=> ?_)
 ·exact z1
 clear hK K
 try simp only[aq]
 refine aH 14 (v:= ?_) rfl ?v14 ?_
 case v14=>(intro w hSw;(try dsimp only at hSw);go_simp;try with_reducible rfl)
 try simp only[aq]
 refine a8 15 rfl (fun K hK=> ?_)
 go_simp
 refine hK.out _ _ ?_ (fun hHeld=> ?_)
 ·go_keep
 clear hK K
 try simp only[aq]
 refine wpAnyH_done (by kernel_rfl) ?_ _
 go_wp2
 go_ret
 exact⟨rfl,HP1.out.put rfl hk _ HX.out,ml HB.out g _ _ _ _ _ _ _ _ rfl⟩
theorem pj (h:cE w base s P v L) (i:Int) (hi: ¬(0≤i∧i<(L.length:Int))):Calls Tryz.prog 86 #[.pointer (some ⟨s,0,none⟩),.int .i64 i] w fun e w'=>e= .returned (.tuple #[.bool false,.int .i64 2])∧w'=w:=by
 have HH:=aa (dy h i)
 rw[decide_eq_false hi] at HH
 clear h hi
 go_enter Tryz.func86,Tryz.ntmps86
 go_wp2_with (go_at_call 131;refine(HH.out).mono ?_;rintro e w1 ⟨rfl,hw⟩;subst hw)
 go_ret2
 exact⟨rfl,rfl⟩
theorem qc (h:cE w base s P v L) (k:Nat) (x:bL) (hx:L[k]? =some x) (hl:x.l=0):Calls Tryz.prog 86 #[.pointer (some ⟨s,0,none⟩),.int .i64 (k:Int)] w fun e w'=>e= .returned (.tuple #[.bool false,.int .i64 6])∧w'=w:=by
 have hk:k<L.length:=(List.getElem?_eq_some_iff.1 hx).1
 have HH:=aa (dy h k)
 rw[decide_eq_true (by omega)] at HH
 obtain⟨g,cap,rfl,hc1,hc2,hg,hgs,hfz,hc⟩:=h.cells (by omega)
 obtain⟨c1,y0,y1,y2,y3,f0,f1,f2,f3⟩:=h.one hx
 rw[hl] at y2
 clear h hc hfz
 go_enter Tryz.func86,Tryz.ntmps86
 go_wp2_with (first
  |(go_at_call 131;refine(HH.out).mono ?_;rintro e w1 ⟨rfl,hw⟩;replace hw:=hw.symm;subst hw))
 go_ret2
 exact⟨rfl,rfl⟩
def nD (x:bL):bL:=⟨x.b,x.p,x.l-1,x.d⟩
theorem oC {x:bL} (h:x.ok):(nD x).ok:=⟨h.1,h.2.1,h.2.2.1,Nat.le_trans (Nat.sub_le _ _) h.2.2.2.1,h.2.2.2.2⟩
theorem cE.tick (h:cE w base s P v L) {g cap k:Nat} (hv:v= .slice (some ⟨g,0,none⟩) L.length cap) {x:bL} (hx:L[k]? =some x) (hxl:1≤x.l):
  cE (w.setCell ⟨g,k*4+2,none⟩ (.int .u64 ((x.l-1:Nat):Int))) base s P v (L.set k (nD x)):=by
 have hne:=h.ne
 have hk:k<L.length:=(List.getElem?_eq_some_iff.1 hx).1
 have hok:=h.f.all x (List.mem_of_getElem? hx)
 subst hv
 have hgs: ¬s=g:=fun q=>hne (by rw[q];rfl)
 have h1:=aR h.own (k*4+2) (by omega) (.int .u64 ((x.l-1:Nat):Int))
 have e:(aK L).set (k*4+2) (.int .u64 ((x.l-1:Nat):Int))=aK (L.set k (nD x)):=by
  rw[iH L k (nD x) hk]
  obtain⟨a0,a1,a2,a3⟩:=dJ L k x hx
  have b0:(aK L).set (k*4) (.int .u64 (x.b:Int))=aK L:=by rw[lS a0]
  have b1:(aK L).set (k*4+1) (.int .u64 (x.p:Int))=aK L:=by rw[lS a1]
  have b3:((aK L).set (k*4+2) (.int .u64 ((x.l-1:Nat):Int))).set (k*4+3) (.int .u64 (x.d:Int))=(aK L).set (k*4+2) (.int .u64 ((x.l-1:Nat):Int)):=by
   rw[lS (by rw[List.getElem?_set_ne (by omega)];exact a3)]
  show _=((((aK L).set (k*4) (.int .u64 (x.b:Int))).set (k*4+1) (.int .u64 (x.p:Int))).set (k*4+2) (.int .u64 ((x.l-1:Nat):Int))).set (k*4+3) (.int .u64 (x.d:Int))
  rw[b0,b1,b3]
 rw[e] at h1
 refine⟨?_,by simpa using h1,by simpa using h.bs,⟨h.f.p1,h.f.p2,?_,by simpa using h.f.len⟩⟩
 ·rw[Below.heap_setCell _ _ _ _ hgs]
  exact h.blk
 ·intro y hy
  rcases List.mem_or_eq_of_mem_set hy with q|q
  ·exact h.f.all y q
  ·rw[q];exact oC hok
theorem um (h:cE w base s P v L) (k:Nat) (x:bL) (hx:L[k]? =some x) (hl:1≤x.l):Calls Tryz.prog 86 #[.pointer (some ⟨s,0,none⟩),.int .i64 (k:Int)] w fun e w'=>e= .returned (.tuple #[.bool (x.l-1==0),.int .i64 0])∧cE w' base s P v (L.set k (nD x))∧Fr (fun k=>some k=v.ownBlock) w w':=by
 have hk:k<L.length:=(List.getElem?_eq_some_iff.1 hx).1
 have HH:=aa (dy h k)
 rw[decide_eq_true (by omega)] at HH
 have HP:=aa h
 obtain⟨g,cap,rfl,hc1,hc2,hg,hgs,hfz,hc⟩:=h.cells (by omega)
 obtain⟨c1,y0,y1,y2,y3,f0,f1,f2,f3⟩:=h.one hx
 have hok:=h.f.all x (List.mem_of_getElem? hx)
 have n1: ¬(x.l:Int)=0:=by omega
 have n3: ¬x.l=0:=by omega
 have n2:(x.l:Int)-1=((x.l-1:Nat):Int):=by omega
 have n4:x.l<18446744073709551616:=by have:=hok.2.2.2.1;have:=hok.2.1;have:=hok.le;omega
 have n5:((x.l-1:Nat):Int)%18446744073709551616=((x.l-1:Nat):Int):=by omega
 clear h hc hfz hok
 go_enter Tryz.func86,Tryz.ntmps86
 go_wp2_with (first
  |(go_at_call 131;refine(HH.out).mono ?_;rintro e w1 ⟨rfl,hw⟩;replace hw:=hw.symm;subst hw))
 go_ret2
 exact⟨by simp[wT],HP.out.tick rfl hx hl,(Fr.refl (fun k=>some k=some g) _).setCell (a:=⟨g,k*4+2,none⟩) rfl _⟩
end
theorem ri:(Tryz.prog.info? 165).map (fun i=>(i.zero,i.size,i.bytes))=some (some (.agg #[.int .u64 0,.int .u64 0,.int .u64 0,.int .u64 0]),4,32):=by kernel_rfl
theorem nV (b p:Nat):fo b p=true↔(⟨b,p,0,0⟩:bL).ok:=by
 unfold fo bL.ok
 simp
@[go_sem] theorem ED (a b : Int) (w : World) : (Instr.build 163 #[(0, .int .u64 a), (1, .int .u64 b)]).run Tryz.prog w = .ok (.agg #[.int .u64 a, .int .u64 b]) w := run_build w 163 _ _ (by kernel_rfl)
@[go_sem] theorem Em (a b : Int) (w : World) : (Instr.build 165 #[(0, .agg #[.int .u64 a, .int .u64 b])]).run Tryz.prog w = .ok (.agg #[.int .u64 a, .int .u64 b, .int .u64 0, .int .u64 0]) w := run_build w 165 _ _ (by kernel_rfl)
theorem Bl {w w1 w2:World} {a0 a1 a2 a3:Addr} {u0 u1 u2 u3:Value} (h:w1.cell? a0=some u0∧w1.cell? a1=some u1∧w1.cell? a2=some u2∧w1.cell? a3=some u3∧Below w.heap.size w w1) (hb:Below w1.heap.size w1 w2):
  w2.cell? a0=some u0∧w2.cell? a1=some u1∧w2.cell? a2=some u2∧w2.cell? a3=some u3∧Below w.heap.size w w2:=by
 obtain⟨h0,h1,h2,h3,h4⟩:=h
 exact⟨(hb.cell (World.block_lt_of_cell? w1 _ h0)).trans h0,(hb.cell (World.block_lt_of_cell? w1 _ h1)).trans h1,(hb.cell (World.block_lt_of_cell? w1 _ h2)).trans h2,(hb.cell (World.block_lt_of_cell? w1 _ h3)).trans h3,h4.trans (hb.mono h4.size)⟩
section
variable {w:World} {base s P:Nat} {v:Value} {L:List bL}
theorem qz (h:cE w base s P v L) (b p:Nat) (hr:fo b p=false):Calls Tryz.prog 37 #[.pointer (some ⟨s,0,none⟩),.int .u64 (b:Int),.int .u64 (p:Int)] w fun e w'=>e= .returned (.tuple #[.int .i64 0,.int .i64 2])∧Below w.heap.size w w':=by
 have HR:=aa (fun w=>cm w b p)
 simp only[hr] at HR
 clear h
 go_enter Tryz.func37,Tryz.ntmps37
 go_wp2_with (go_at_call 70;refine(HR.out _).mono ?_;rintro e w1 ⟨rfl,c,rfl⟩)
 go_ret2
 exact⟨rfl,(((Below.refl _ _).alloc (Nat.le_refl _) _).alloc (by simp) _)⟩
theorem rZ (h:cE w base s P v L) (b p:Nat) (hr:fo b p=true) (hl:L.length=32):Calls Tryz.prog 37 #[.pointer (some ⟨s,0,none⟩),.int .u64 (b:Int),.int .u64 (p:Int)] w fun e w'=>e= .returned (.tuple #[.int .i64 0,.int .i64 4])∧Below w.heap.size w w':=by
 have HR:=aa (fun w=>cm w b p)
 simp only[hr] at HR
 obtain⟨a,cap,rfl,_,_⟩:=h.form
 have c1:=h.c1
 rw[hl] at c1
 have hs:=h.lt
 clear h
 go_enter Tryz.func37,Tryz.ntmps37
 go_wp2_with (go_at_call 70;refine(HR.out _).mono ?_;rintro e w1 ⟨rfl,c,rfl⟩)
 go_ret2
 exact⟨rfl,(((Below.refl _ _).alloc (Nat.le_refl _) _).alloc (by simp) _)⟩
theorem aG {w:World} {base:Nat} {e:TypeId} {size:Nat} {v:Value} {n:Nat} {xs:List Value} (h:w.ownsRow base e size v n xs): ∃a cap,v= .slice a n cap:=by
 rcases h.2 with ⟨rfl,rfl⟩|⟨g,cap,cur,rfl,_⟩
 ·exact⟨none,0,rfl⟩
 ·exact⟨_,cap,rfl⟩
theorem info_parts {P:Program} {e:TypeId} {z:Value} {n m:Nat} (h:(P.info? e).map (fun i=>(i.zero,i.size,i.bytes))=some (some z,n,m)): ∃i,P.info? e=some i∧i.zero=some z∧i.size=n∧i.bytes=m:=by
 cases hh:P.info? e with
 |none=>rw[hh] at h;cases h
 |some i=>
  rw[hh] at h
  simp at h
  exact⟨i,rfl,h.1,h.2.1,h.2.2⟩
theorem lF (x:bL): ∀u∈iX x,u.oneCell'=true:=by
 intro u hu
 simp[iX] at hu
 rcases hu with rfl|rfl|rfl|rfl<;>rfl
theorem gM {w1 W:World} {c:List Value} {t:TypeId} (h:W.heap=(w1.alloc (.cells c.toArray t)).heap): ∀j u,c[j]? =some u→W.cell? ((⟨w1.heap.size,0,none⟩:Addr).add j)=some u:=by
 intro j u hu
 have hb:W.heap[w1.heap.size]? =some (.cells c.toArray t):=by rw[h];exact(MapKept.heap_alloc w1 _).1
 exact World.news_of_block (cs:=c.toArray) hb j u (by simpa using hu)
theorem cE.more (h:cE w base s P v L) (x:bL) (hx:x.ok) (hl:L.length<32) {w1:World} (hb:Below w.heap.size w w1) {o:Obj}:
  ∀(W w2:World) (v1:Value),W.grownBy w2 v.ownBlock→w2.ownsRow base 165 4 v1 (L.length+1) (aK L++iX x)→W.heap=(w1.alloc o).heap→W.os=w1.os→W.tape=w1.tape→W.output=w1.output→
  w2.cell? ⟨s,1,none⟩=some v∧w2.frozen? ⟨s,1,none⟩=false∧cE (w2.setCell ⟨s,1,none⟩ v1) base s P v1 (L++[x])∧Fr (fun k=>k=s∨some k=v.ownBlock) w (w2.setCell ⟨s,1,none⟩ v1):=by
 intro W w2 v1 hg ho hW h1 h2 h3
 have hbW:Below w.heap.size w W:=by
  have q:=hb.alloc hb.size o
  exact⟨h1.trans q.os,h2.trans q.tape,h3.trans q.output,by rw[hW];exact q.size,fun k hk=>by rw[hW];exact q.block k hk⟩
 have hpW:=h.below hbW
 have hsW:=hpW.lt
 have hbl:w2.heap[s]? =W.heap[s]? :=hg.block s hsW (fun q=>hpW.ne q.symm)
 have hb2:=hbl.trans hpW.blk
 have hsz:W.heap.size≤w2.heap.size:=hg.size
 refine⟨by unfold World.cell?;simp[hb2],by unfold World.frozen?;simp[hb2],?_,?_⟩
 ·refine cE.stored hb2 (by rw[mH,List.length_append];simpa [aK] using ho) (Nat.le_trans hpW.bs hsz) ⟨h.f.p1,h.f.p2,?_,by simp;omega⟩
  intro y hy
  rcases List.mem_append.1 hy with q|q
  ·exact h.f.all y q
  ·simp at q;rw[q];exact hx
 ·have f1:Fr (fun k=>k=s∨some k=v.ownBlock) W w2:=(Fr.xu hg).wide (fun k _ q=> .inr q)
  exact((Fr.aC hbW).trans f1).setCell (a:=⟨s,1,none⟩) (.inl rfl) _
theorem yK {w:World} {s:Nat} {u v c0 c1:Value} {c:Array Value} {t:TypeId} (h:w.cell? ⟨s,0,none⟩=some u∧w.cell? ⟨s,1,none⟩=some v):
  ((w.alloc (.cells #[c0,c1] t)).alloc (.cells c t)).drew.cell? ⟨w.heap.size,0,none⟩=some c0∧((w.alloc (.cells #[c0,c1] t)).alloc (.cells c t)).drew.cell? ⟨w.heap.size,1,none⟩=some c1∧((w.alloc (.cells #[c0,c1] t)).alloc (.cells c t)).drew.cell? ⟨s,0,none⟩=some u∧((w.alloc (.cells #[c0,c1] t)).alloc (.cells c t)).drew.cell? ⟨s,1,none⟩=some v∧Below w.heap.size w ((w.alloc (.cells #[c0,c1] t)).alloc (.cells c t)).drew:=by
 have hb:Below (w.heap.size+1) (w.alloc (.cells #[c0,c1] t)) ((w.alloc (.cells #[c0,c1] t)).alloc (.cells c t)).drew:=((Below.refl _ _).alloc (by simp) _).drew
 have hb0:Below w.heap.size w (w.alloc (.cells #[c0,c1] t)):=(Below.refl _ _).alloc (Nat.le_refl _) _
 have hz:=hb0.trans (hb.mono (by omega))
 exact⟨(hb.cell (p:=⟨w.heap.size,0,none⟩) (by simp)).trans (by unfold World.cell?;simp only[(MapKept.heap_alloc w _).1];rfl),(hb.cell (p:=⟨w.heap.size,1,none⟩) (by simp)).trans (by unfold World.cell?;simp only[(MapKept.heap_alloc w _).1];rfl),
  (hz.cell (World.block_lt_of_cell? w _ h.1)).trans h.1,(hz.cell (World.block_lt_of_cell? w _ h.2)).trans h.2,hz⟩
theorem xg {w w1:World} {p0 p1 p2 p3:Prop} (h:p0∧p1∧p2∧p3∧Below w.heap.size w w1):Below w.heap.size w w1:=h.2.2.2.2
theorem pH {w w1:World} {c:Array Value} {t:TypeId} (h:w1=(w.alloc (.cells c t)).drew):Below w.heap.size w w1:=by rw[h];exact((Below.refl _ _).alloc (Nat.le_refl _) _).drew
theorem sI (h:cE w base s P v L) (b p:Nat) (hr:fo b p=true) (hl:L.length<32) (hq:P*232792560<cW L+asks ⟨b,p,0,0⟩):Calls Tryz.prog 37 #[.pointer (some ⟨s,0,none⟩),.int .u64 (b:Int),.int .u64 (p:Int)] w fun e w'=>e= .returned (.tuple #[.int .i64 0,.int .i64 10])∧Below w.heap.size w w':=by
 have HR:=aa (fun w=>cm w b p)
 simp only[hr] at HR
 have hok:=(nV b p).1 hr
 have HK:=aa (fun w=>oR w ⟨b,p,0,0⟩ hok)
 have HS:Hid (∀w1,Below w.heap.size w w1→Calls Tryz.prog 71 #[.pointer (some ⟨s,0,none⟩)] w1 fun e w'=>e= .returned (.int .u64 (cW L:Int))∧Below w1.heap.size w1 w'):=fun w1 hb=>yO (h.below hb)
 obtain⟨a,cap,rfl,_,_⟩:=h.form
 have c0:=h.c0
 have c1:=h.c1
 have hs:=h.lt
 have n1: ¬(L.length:Int)=32:=by omega
 have n2: ¬L.length=32:=by omega
 have q1:=iF h.f.all
 have q2:=kN hok
 have q3:=h.f.p2
 have HI:Hid (w.cell? ⟨s,0,none⟩=some (.int .u64 (P:Int))∧w.cell? ⟨s,1,none⟩=some (.slice a L.length cap)):=⟨c0,c1⟩
 generalize asks ⟨b,p,0,0⟩=q at HK hq q2
 generalize cW L=z at HS hq q1
 have e1:IntKind.u64.wrap ((z:Int)+(q:Int))=((z+q:Nat):Int):=by rw[lz _ (by omega) (by omega)];simp
 have e2:IntKind.u64.wrap ((P:Int)*232792560)=((P*232792560:Nat):Int):=by rw[lz _ (by omega) (by omega)];simp
 have e3:((P*232792560:Nat):Int)<((z+q:Nat):Int):=by omega
 clear h hr hq q1 q2 q3
 go_enter Tryz.func37,Tryz.ntmps37
 go_wp2_with (go_at_call 70;refine(HR.out _).mono ?_;rintro e w1 ⟨rfl,c,rfl⟩)
 go_region_held3 (fun w'=>w'.cell? ⟨w.heap.size,0,none⟩=some (.int .u64 (b:Int))∧w'.cell? ⟨w.heap.size,1,none⟩=some (.int .u64 (p:Int))∧w'.cell? ⟨s,0,none⟩=some (.int .u64 (P:Int))∧w'.cell? ⟨s,1,none⟩=some (.slice a L.length cap)∧Below w.heap.size w w')
  (first|exact yK HI.out|exact Bl (by assumption) hb)
  (first
   |(go_at_call 71;refine(HS.out _ (xg (by assumption))).mono ?_;rintro e w1 ⟨rfl,hb⟩)
   |(go_at_call 72;refine(HK.out _).mono ?_;rintro e w1 ⟨rfl,c',hw⟩;have hb:=pH hw;clear hw))
 go_wp2
 go_ret2
 exact⟨rfl,xg (by assumption)⟩
end
def kD (P:Nat) (L:List bL) (b p:Nat):Nat:=if fo b p=false then 2 else if L.length=32 then 4 else if P*232792560<cW L+asks ⟨b,p,0,0⟩ then 10 else 0
def mM (P:Nat) (L:List bL) (b p:Nat):Nat:=if kD P L b p=0 then L.length else 0
def qP (P:Nat) (L:List bL) (b p:Nat):List bL:=if kD P L b p=0 then L++[⟨b,p,0,0⟩] else L
def za (L:List bL) (i:Int):Bool:=decide (0≤i∧i<(L.length:Int))
def jC (L:List bL) (i:Int) (now:Nat):List bL:=if za L i∧(iC L i).d≤now then L.set i.toNat (dA (iC L i) now) else L
def fE (L:List bL) (i:Int):Nat:=if za L i then(if (iC L i).l=0 then 6 else 0) else 2
def yu (L:List bL) (i:Int):Bool:=decide (za L i=true∧(iC L i).l=1)
def cK (L:List bL) (i:Int):List bL:=if za L i∧1≤(iC L i).l then L.set i.toNat (nD (iC L i)) else L
theorem lO {L:List bL} {k:Nat} {x:bL} (hx:L[k]? =some x):iC L (k:Int)=x∧za L (k:Int)=true:=by
 have hk:k<L.length:=(List.getElem?_eq_some_iff.1 hx).1
 unfold iC za
 rw[if_pos (by omega)]
 exact⟨by rw[Int.toNat_natCast,hx];rfl,by simp[hk]⟩
theorem jP (L:List bL) (i:Int):za L i=false∧ ¬(0≤i∧i<(L.length:Int))∨ ∃(k:Nat) (x:bL),i=k∧L[k]? =some x:=by
 by_cases h:0≤i∧i<(L.length:Int)
 ·refine .inr ⟨i.toNat,L[i.toNat]'(by omega),by omega,List.getElem?_eq_getElem _⟩
 ·exact .inl ⟨by unfold za;simp only[decide_eq_false h],h⟩
section
variable {w:World} {base s P:Nat} {v:Value} {L:List bL}
theorem rv (h:cE w base s P v L) (i:Int):Calls Tryz.prog 86 #[.pointer (some ⟨s,0,none⟩),.int .i64 i] w fun e w'=>e= .returned (.tuple #[.bool (yu L i),.int .i64 (fE L i:Int)])∧cE w' base s P v (cK L i)∧Fr (fun k=>k=s∨some k=v.ownBlock) w w':=by
 unfold fE yu cK
 rcases jP L i with ⟨h0,h1⟩|⟨k,x,rfl,hx⟩
 ·refine(pj h i h1).mono ?_
  rintro e w' ⟨rfl,rfl⟩
  exact⟨by simp[h0],by simpa [h0] using h,Fr.refl _ _⟩
 ·obtain⟨e1,e2⟩:=lO hx
  rw[e1,e2]
  by_cases hd:x.l=0
  ·refine(qc h k x hx hd).mono ?_
   rintro e w' ⟨rfl,rfl⟩
   exact⟨by simp[hd],by simpa [hd] using h,Fr.refl _ _⟩
  ·refine(um h k x hx (by omega)).mono ?_
   rintro e w' ⟨rfl,hp,hf⟩
   have g:1≤x.l:=by omega
   refine⟨?_,by simpa [g] using hp,hf.wide (fun _ _ q=> .inr q)⟩
   have q:(x.l-1==0)=decide (x.l=1):=by rw[Bool.eq_iff_iff];simp;omega
   simp[hd,q]
theorem cE.new (w:World) (P:Nat) (h1:1≤P) (h2:P≤64) (base:Nat) (hb:base≤w.heap.size):cE (w.alloc (.cells #[.int .u64 (P:Int),.slice none 0 0] 137)) base w.heap.size P (.slice none 0 0) []:=
 ⟨(MapKept.heap_alloc w _).1,World.ownsRow_nil _ _ _ _,by simp;omega,h1,h2,by simp,by simp⟩
end
theorem oV {w w':World} {c:Array Value} {t:TypeId} (h:w'=w.alloc (.cells c t)):Below w.heap.size w w':=by rw[h];exact(Below.refl _ _).alloc (Nat.le_refl _) _
def gC (now:Nat) (x:bL):Bool:=x.l==0&&decide (x.d≤now)&& !(x.d==0)
def fZ (now:Nat) (x:bL):bL:=if gC now x then dA x now else x
def cU (L:List bL) (now k:Nat):List bL:=(L.take k).map (fZ now)++L.drop k
def gd (L:List bL) (now:Nat):Nat→List Nat
 |0=>[]
 |k+1=>gd L now k++(if ((L[k]?).map (gC now)).getD false then [k] else [])
theorem rM (L:List bL) (now:Nat):cU L now 0=L:=by simp[cU]
theorem jH (L:List bL) (now k:Nat):(cU L now k).length=L.length:=by
 simp[cU]
 omega
theorem vz (L:List bL) (now:Nat):cU L now L.length=L.map (fZ now):=by simp[cU]
theorem mz {L:List bL} {now k i:Nat} (h:k≤i) (hk:k≤L.length):(cU L now k)[i]? =L[i]? :=by
 unfold cU
 rw[List.getElem?_append_right (by simp;omega)]
 simp only[List.length_map,List.length_take,List.getElem?_drop]
 congr 1
 omega
theorem nu {L:List bL} {now k:Nat} {x:bL} (hx:L[k]? =some x):cU L now (k+1)=(cU L now k).set k (fZ now x):=by
 obtain⟨hk,rfl⟩:=List.getElem?_eq_some_iff.1 hx
 unfold cU
 rw[List.set_append_right _ _ (by simp;omega)]
 have:k-(List.map (fZ now) (List.take k L)).length=0:=by simp;omega
 rw[this,List.drop_eq_getElem_cons hk,List.set_cons_zero,List.take_succ_eq_append_getElem hk,List.map_append,List.append_assoc]
 rfl
theorem wY {L:List bL} {now k:Nat} {x:bL} (hx:L[k]? =some x) (hd:gC now x=false):cU L now (k+1)=cU L now k:=by
 obtain⟨hk,rfl⟩:=List.getElem?_eq_some_iff.1 hx
 rw[nu hx,show fZ now L[k]=L[k] from by simp[fZ,hd]]
 refine List.ext_getElem? fun i=> ?_
 by_cases q:k=i
 ·subst q
  rw[List.getElem?_set_self (by rw[jH];exact hk),mz (Nat.le_refl _) (by omega),List.getElem?_eq_getElem hk]
 ·rw[List.getElem?_set_ne q]
theorem ux {L:List bL} {now k:Nat} {x:bL} (hx:L[k]? =some x) (hd:gC now x=true):cU L now (k+1)=(cU L now k).set k (dA x now):=by
 rw[nu hx]
 simp[fZ,hd]
theorem zC {L:List bL} {now k:Nat} {x:bL} (hx:L[k]? =some x) (hd:gC now x=false):gd L now (k+1)=gd L now k:=by simp[gd,hx,hd]
theorem xj {L:List bL} {now k:Nat} {x:bL} (hx:L[k]? =some x) (hd:gC now x=true):gd L now (k+1)=gd L now k++[k]:=by simp[gd,hx,hd]
theorem lZ (L:List bL) (now:Nat): ∀k,(gd L now k).length≤k
 |0=>Nat.le_refl _
 |k+1=>by
  have:=lZ L now k
  simp only[gd,List.length_append]
  split<;>simp<;>omega
def iw (l:List Nat):List Value:=l.map (fun (n:Nat)=>Value.int .i64 (n:Int))
theorem CC (nn:Nat) (hn:1≤nn) (l B1 B2 s cap now:Nat) (a:Option Addr) (L:List bL) (hlen:L.length≤32) (J:Nat→World→Prop)
  (hA: ∀k W o,J k W→J k (World.alloc W o))
  (hR: ∀k W,J k W→Boxed W B1 84 (.pointer (some ⟨s,0,none⟩))∧Boxed W B2 25 (.int .u64 (now:Int))∧(∀i x,k≤i→L[i]? =some x→ ∃g,a=some ⟨g,0,none⟩∧W.cell? ⟨g,i*4,none⟩=some (.int .u64 (x.b:Int))∧W.cell? ⟨g,i*4+1,none⟩=some (.int .u64 (x.p:Int))∧W.cell? ⟨g,i*4+2,none⟩=some (.int .u64 (x.l:Int))∧W.cell? ⟨g,i*4+3,none⟩=some (.int .u64 (x.d:Int))))
  (hN: ∀k x W,L[k]? =some x→gC now x=false→J k W→J (k+1) W)
  (hY: ∀k x W,L[k]? =some x→gC now x=true→J k W→YieldAt Fence.wide (nn-1) Tryz.prog l #[.int .i64 (k:Int)] W fun e W'=>e= .returned (.bool true)∧J (k+1) W')
  (W:World) (hsl:W.cell? ⟨s,1,none⟩=some (.slice a L.length cap)) (h0:J 0 W):
  CallsIn Fence.wide nn Tryz.prog 134 #[.func (.yield l) #[] #[],.pointer (some ⟨B1,0,none⟩),.pointer (some ⟨B2,0,none⟩)] W fun e W'=>(∃v,e= .returned v)∧J L.length W':=by
 have HR:=aa hR
 have H0:=aa h0
 have HY:=aa hY
 have HN:=aa hN
 have HA:=aa hA
 obtain⟨hb1,_,_⟩:=hR 0 W h0
 have e1:=hb1.cell
 clear hb1
 clear hR h0 hY hA hN
 refine callsIn_of_wp Tryz.func134 rfl trivial ?_ rfl
 simp only[Tryz.ntmps134,List.size_toArray,List.length_cons,List.length_nil,Nat.reduceAdd,Nat.reduceSub,Array.replicate_succ,Array.replicate_zero,List.push_toArray,List.append_toArray,List.nil_append,List.cons_append]
 gi_wp2
 gi_loopw [11] (fun p wr=> ∃k:Nat,k≤L.length∧p= .int .i64 (k:Int)∧J k wr) (fun p _=>L.length-(intOf p).toNat)
 case atStart=>exact⟨0,by omega,rfl,H0.out⟩
 case round=>
  obtain⟨k,hk,rfl,hJ⟩:=hrel
  by_cases hkn:k<L.length
  ·have hkn':(k:Int)<(L.length:Int):=by omega
   obtain⟨x,hx⟩: ∃x,L[k]? =some x:=⟨_,List.getElem?_eq_getElem hkn⟩
   obtain⟨hb1,hb2,hc⟩:=HR.out k wr hJ
   obtain⟨g,rfl,y0,y1,y2,y3⟩:=hc k x (Nat.le_refl _) hx
   have e2:=hb2.cell
   have hlt:=hb2.lt
   have n1: ¬B2=wr.heap.size:=by omega
   obtain⟨b,p,xl,d⟩:=x
   dsimp only at y0 y1 y2 y3
   have HJ0:=aa hJ
   have HX:=aa hx
   clear hJ hb1 hb2 hc hx
   by_cases hl:xl=0
   ·subst hl
    by_cases hd:d≤now
    ·by_cases hz:d=0
     ·subst hz
      have HO:=aa (fun w=>(callsIn_wide (n:=nn-1)).2 (jg w ⟨b,p,0,0⟩ now))
      have HSL:=aa (fun w=>(callsIn_wide (n:=nn-1)).2 (nT w ⟨b,p,0,0⟩))
      simp only[decide_eq_true hd] at HO
      simp only[Int.natCast_zero,beq_self_eq_true] at HO HSL y2 y3
      have HJ1:=aa (HA.out _ _ (.cells #[.int .u64 (b:Int),.int .u64 (p:Int),.int .u64 0,.int .u64 0] 165) HJ0.out)
      have HNX:Hid (∀W,J k W→J (k+1) W):=fun W=>HN.out k _ W HX.out (by simp[gC])
      gi_wp2_with (first|(refine⟨trivial,?_⟩;gi_at_call 135;refine(HO.out _).mono ?_;rintro e w1 ⟨rfl,c,rfl⟩)|(refine⟨trivial,?_⟩;gi_at_call 136;refine(HSL.out _).mono ?_;rintro e w2 ⟨rfl,c2,rfl⟩))
      refine⟨fun _ h=>(by cases h),?_⟩
      gi_wp2
      go_roundw
      case rel=>exact⟨k+1,by omega,by go_num,HNX.out _ (HA.out _ _ _ (HA.out _ _ _ HJ1.out))⟩
      case measure=>simp[intOf];omega
     ·have hz2:(d==0)=false:=by simpa using hz
      have hdue:gC now ⟨b,p,0,d⟩=true:=by simp[gC,hd,hz]
      have HO:=aa (fun w=>(callsIn_wide (n:=nn-1)).2 (jg w ⟨b,p,0,d⟩ now))
      have HSL:=aa (fun w=>(callsIn_wide (n:=nn-1)).2 (nT w ⟨b,p,0,d⟩))
      simp only[decide_eq_true hd] at HO
      simp only[hz2] at HSL
      simp only[Int.natCast_zero] at HO HSL y2
      have HJ1:=aa (HA.out _ _ (.cells #[.int .u64 (b:Int),.int .u64 (p:Int),.int .u64 0,.int .u64 (d:Int)] 165) HJ0.out)
      have HYY:=aa (fun W=>HY.out k _ W HX.out hdue)
      clear HN hdue
      gi_wp2_with (first|(refine⟨trivial,?_⟩;gi_at_call 135;refine(HO.out _).mono ?_;rintro e w1 ⟨rfl,c,rfl⟩)|(refine⟨trivial,?_⟩;gi_at_call 136;refine(HSL.out _).mono ?_;rintro e w2 ⟨rfl,c2,rfl⟩))
      obtain⟨fn,tmps,assign,body,hy,hR⟩:=HYY.out _ (HA.out _ _ (.cells c2 165) (HA.out _ _ (.cells c 165) HJ1.out))
      rw[hy,Oper.uponIn_round]
      refine⟨fun _=>hn,hR.mono ?_⟩
      rintro e W3 ⟨rfl,hJ3⟩
      have HJ3:=aa hJ3
      clear hJ3 hy hR HYY HY
      gi_wp2
      go_roundw
      case rel=>exact⟨k+1,by omega,by go_num,HJ3.out⟩
      case measure=>simp[intOf];omega
    ·have HO:=aa (fun w=>(callsIn_wide (n:=nn-1)).2 (jg w ⟨b,p,0,d⟩ now))
     simp only[decide_eq_false hd] at HO
     simp only[Int.natCast_zero] at HO y2
     have HJ1:=aa (HA.out _ _ (.cells #[.int .u64 (b:Int),.int .u64 (p:Int),.int .u64 0,.int .u64 (d:Int)] 165) HJ0.out)
     have HNX:Hid (∀W,J k W→J (k+1) W):=fun W=>HN.out k _ W HX.out (by simp[gC,hd])
     gi_wp2_with (first|(refine⟨trivial,?_⟩;gi_at_call 135;refine(HO.out _).mono ?_;rintro e w1 ⟨rfl,c,rfl⟩))
     refine⟨trivial,?_⟩
     gi_wp2
     refine⟨fun _ h=>(by cases h),?_⟩
     gi_wp2
     go_roundw
     case rel=>exact⟨k+1,by omega,by go_num,HNX.out _ (HA.out _ _ _ HJ1.out)⟩
     case measure=>simp[intOf];omega
   ·have hl2:((xl:Int)==0)=false:=by rw[wT];simpa using hl
    have HJ1:=aa (HA.out _ _ (.cells #[.int .u64 (b:Int),.int .u64 (p:Int),.int .u64 (xl:Int),.int .u64 (d:Int)] 165) HJ0.out)
    have HNX:Hid (∀W,J k W→J (k+1) W):=fun W=>HN.out k _ W HX.out (by simp[gC,hl])
    gi_wp2
    refine⟨trivial,?_⟩
    gi_wp2
    refine⟨trivial,?_⟩
    gi_wp2
    refine⟨fun _ h=>(by cases h),?_⟩
    gi_wp2
    go_roundw
    case rel=>exact⟨k+1,by omega,by go_num,HNX.out _ HJ1.out⟩
    case measure=>simp[intOf];omega
  ·obtain rfl:k=L.length:=by omega
   have HJ:=aa hJ
   clear hJ
   gi_wp2
   go_end0
   exact⟨⟨_,rfl⟩,HJ.out⟩
def Kept (l D:Nat) (r:Loop) (W:World):Prop:=W.heap[l]? =some (.loop r)∧W.heap[D]? =some (.deferred (some []))
theorem Kept.alloc {l D:Nat} {r:Loop} {W:World} (h:Kept l D r W) (o:Obj):Kept l D r (W.alloc o):=
 ⟨(Below.heap_alloc _ _ _ (Array.getElem?_eq_some_iff.1 h.1).1).trans h.1,(Below.heap_alloc _ _ _ (Array.getElem?_eq_some_iff.1 h.2).1).trans h.2⟩
theorem Kept.put {l D:Nat} {r:Loop} {W:World} (h:Kept l D r W) (hne:l≠D) (r':Loop):Kept l D r' (W.putObj l (.loop r')):=
 ⟨World.putObj_heap_same (Array.getElem?_eq_some_iff.1 h.1).1,(World.putObj_heap_other (Ne.symm hne)).trans h.2⟩
theorem Kept.keeps {l D B:Nat} {r:Loop} {W W':World} (h:Kept l D r W) (hl:B≤l) (hD:B≤D) (hk:KeepsFrom B W W'):Kept l D r W':=
 ⟨hk.same l _ hl h.1 rfl,hk.same D _ hD h.2 rfl⟩
theorem oB {P:Program} {n:Nat} {g:Operand} {p:Tmp} {assign body:Code} {Q:Exit→Act→World→Prop} {a:Act} {w:World} {gf:Nat} {lb:Array Value}
  (hg:a.eval g= .func (.func gf) #[] lb) (eg: ∀args w,(callFunc gf args).run P w= .ok (.enter gf args) w)
  (J:Nat→World→Prop) (N Y:Nat→Prop) (enc:Nat→Value) (m:Nat) (a₁:Nat→Act)
  (hAl: ∀k W o,J k W→J k (World.alloc W o))
  (hPu: ∀k W l o o',w.heap.size≤l→W.heap[l]? =some o→o.isCells=false→J k W→J k (W.putObj l o'))
  (hNo: ∀k W,N k→J k W→J (k+1) W) (h0:J 0 w)
  (hit: ∀(l:Nat) (J':Nat→World→Prop) (W:World),(∀k W,J' k W→J k W)→(∀k W o,J' k W→J' k (World.alloc W o))→(∀k W,N k→J' k W→J' (k+1) W)→
   (∀k W,Y k→J' k W→YieldAt Fence.wide (n-1-1) P l #[enc k] W fun e W'=>e= .returned (.bool true)∧J' (k+1) W')→J' 0 W→
   CallsIn Fence.wide (n-1) P gf (#[.func (.yield l) #[] #[]]++lb) W fun e W'=>(∃v,e= .returned v)∧J' m W')
  (has: ∀(l k:Nat) (W:World) (K:Act→World→Prop),K (a₁ k) W→assign.wpIn (Fence.wide.inRound l) (n-1-1) P (Exit.then K (fun _ _ _=>False)) {tmps:=a.tmps.setIfInBounds p (enc k),defers:=[]} W)
  (hbo: ∀(l k:Nat) (W:World),Y k→J k W→body.wpIn (Fence.wide.inRound l) (n-1-1) P (fun e _ W'=>e= .normal∧KeepsFrom w.heap.size W W'∧J (k+1) W') (a₁ k) W)
  (hdo: ∀(D:Nat) (W:World),w.heap.size≤D→J m W→W.heap[D]? =some (.deferred (some []))→Q .normal {a with defers:={target:= .collected D,args:= #[]}::a.defers} W):
  (Code.rangeFunc g #[p] assign body).wpIn Fence.wide n P Q a w:=by
 refine wpIn_rangeFunc fun fn hfn=> ?_
 have hne:w.heap.size+1≠w.heap.size:=by omega
 obtain⟨r,hr⟩: ∃r:Loop,r={state:= .ready,pending:=none,fn,tmps:=a.tmps,params:= #[p],assign,body,defers:=w.heap.size}:=⟨_,rfl⟩
 have hk0:Kept (w.heap.size+1) w.heap.size r ((w.alloc (.deferred (some []))).alloc (.loop r)):=by
  refine⟨?_,(Below.heap_alloc _ _ _ (by simp)).trans (World.alloc_heap_new w _)⟩
  have:=World.alloc_heap_new (w.alloc (.deferred (some []))) (.loop r)
  rwa [World.size_alloc] at this
 have hready:r.state= .ready:=by rw[hr]
 refine⟨w.heap.size+1,[{target:= .collected w.heap.size,args:= #[]}],(w.alloc (.deferred (some []))).alloc (.loop r),{target:= .fn (.func gf) lb,args:= #[.func (.yield (w.heap.size+1)) #[] #[]]},(w.alloc (.deferred (some []))).alloc (.loop r),gf,#[.func (.yield (w.heap.size+1)) #[] #[]]++lb,(w.alloc (.deferred (some []))).alloc (.loop r),?_,?_,fun _ _=>trivial,?_,fun h=>(by cases h),?_⟩
 ·rw[hr];exact run_enterLoop_outer _ _ _ _ _
 ·simp only[resolve,hg]
  simp[go_sem]
 ·simp[invoke,go_sem,eg]
 ·refine(hit (w.heap.size+1) (fun k W=>J k W∧Kept (w.heap.size+1) w.heap.size r W) _ (fun _ _ h=>h.1) (fun k W o h=>⟨hAl k W o h.1,h.2.alloc o⟩) (fun k W hN h=>⟨hNo k W hN h.1,h.2⟩) ?_ ⟨hAl 0 _ _ (hAl 0 _ _ h0),hk0⟩).mono ?_
  ·rintro k W hY ⟨hJ,hK⟩
   have hy:=run_yield (P:=P) (args:= #[enc k]) hK.1 (by rw[hr];rfl)
   refine⟨_,_,_,_,hy,roundIn_of_wpIn (by rw[hr];exact hfn) ?_⟩
   have e1:r.assign=assign:=by rw[hr]
   have e2:r.body=body:=by rw[hr]
   have e3:((r.params.zip #[enc k]).foldl (fun tmps (t,a)=>tmps.setIfInBounds t a) r.tmps)=a.tmps.setIfInBounds p (enc k):=by rw[hr];simp
   rw[e1,e2,e3]
   refine has _ k W _ ?_
   refine⟨_,run_beginRound hK.1 hready,?_⟩
   have hJ1:J k (W.putObj (w.heap.size+1) (.loop {r with state:= .busy})):=hPu k W _ _ _ (by omega) hK.1 rfl hJ
   have hK1:=hK.put hne {r with state:= .busy}
   refine wpIn_mono (hbo _ k _ hY hJ1) ?_
   rintro e a3 W3 ⟨rfl,hk3,hJ3⟩
   have hK3:=hK1.keeps (by omega) (Nat.le_refl _) hk3
   refine⟨_,_,run_endRound none hK3.1,rfl,hPu (k+1) W3 _ _ _ (by omega) hK3.1 rfl hJ3,?_⟩
   have:=hK3.put hne {{r with state:=LoopState.busy} with state:= .ready,pending:=none}
   rw[hr] at this⊢
   exact this
  ·rintro e W2 ⟨⟨v,rfl⟩,hJ,hK⟩
   refine⟨none,_,?_,hdo _ _ (Nat.le_refl _) (hPu m W2 _ _ (.loop {r with state:= .exhausted}) (by omega) hK.1 rfl hJ) (hK.put hne _).2⟩
   have:=run_endLoop (P:=P) hK.1 (by rw[hready];decide)
   rw[this,hr]
end Go.Proofs.YtjlbmmiomfpgiaaGreatDoor.Cb
namespace Go.Proofs.YtjlbmmiomfpgiaaGreatDoor.Cb
open Go.RowKit Go.Lib Go.Shelf
attribute [local go_sem] Oper.semAt_some
def bN (ops:Array Oper):Bool:=ops.all fun o=>match o.op with
 | .defer _=>false
 |_=>true
theorem de {ops:Array Oper} (h:bN ops=true) {i:Nat} {o:Oper} (ho:ops[i]? =some o): ∀c,o.op≠ .defer c:=by
 intro c e
 unfold bN at h
 rw[Array.all_eq_true'] at h
 have:=h o (Array.mem_of_getElem? ho)
 rw[e] at this
 exact absurd this (by simp)
theorem dd {P:Program} {o:Oper} {a:Act} {w:World} {K:Act→World→Prop} {Q:Exit→Act→World→Prop} {l n:Nat} (hd: ∀c,o.op≠ .defer c) (h:o.wp P a w K Q):o.wpIn (Fence.wide.inRound l) n P a w K Q:=by
 refine⟨fun _ _=>trivial,?_⟩
 rw[Oper.semAt_eq _ _ _ hd]
 unfold Oper.wp at h
 revert h
 generalize (execOp a.eval o).run P w=r
 intro h
 match r,h with
 | .ok (.value _) _,h=>exact h
 | .ok .skip _,h=>exact h
 | .ok (.defer _) _,h=>exact h
 | .ok (.enter f args) w',h=>exact⟨fun q=>absurd q (by simp[Fence.inRound,Fence.wide]),CallsIn.inRound l (callsIn_wide.2 h)⟩
 | .ok (.row row args) w',h=>
  refine⟨fun q=>absurd q (by simp[Fence.inRound,Fence.wide]),fun c cs _=> ?_⟩
  obtain⟨v,w'',r1,s⟩:=h c cs
  exact⟨v,w'',r1,stepsIn_wide.2 s⟩
 | .halt (.panic _) _,h=>exact h
theorem aT {P:Program} {md:Region.Mode} {ops:Array Oper} {Q:Exit→Act→World→Prop} {l n:Nat} (hd:bN ops=true) (hlo: ¬LetsOut Q): ∀(fuel:Nat) (listed:Array Bool) (a:Act) (w:World),wpAny P md ops Q fuel listed a w→wpAnyIn (Fence.wide.inRound l) n P md ops Q fuel listed a w
 |0,_,_,_,h=>h
 |fuel+1,_,a,w,h=>⟨h.1,fun i hi=>by
  have h2:=h.2 i hi
  unfold wpOp at h2
  unfold wpOpIn
  cases ho:ops[i]? with
  |none=>rw[ho] at h2;exact aT hd hlo fuel _ _ _ h2
  |some o=>
   rw[ho] at h2
   dsimp only at h2⊢
   by_cases hw:Region.wanted o (yielded ops a.tmps)=true
   ·rw[if_pos hw] at h2⊢
    rcases h2 with h2|h2
    ·exact dd (de hd ho) (Oper.wp_mono (fun a w q=>aT hd hlo fuel _ a w q) h2)
    ·exact absurd h2.2 hlo
   ·rw[if_neg hw] at h2⊢
    exact⟨fun _ _=>trivial,aT hd hlo fuel _ _ _ h2⟩⟩
theorem aY {P:Program} {id:Nat} {ops:Array Oper} {Q:Exit→Act→World→Prop} {l n:Nat} {a:Act} {w:World} (S:World→Prop) (hm:P.follows .mixedOrders=true) (hd:bN ops=true) (hlo: ¬LetsOut Q) (hS:S w.drew)
  (h:S w.drew→wpAnyH P .any ops Q S ops.size (Array.replicate ops.size false) a w.drew):(Code.region id ops true).wpIn (Fence.wide.inRound l) n P Q a w:=
 wpIn_region_any hm (aT hd hlo _ _ _ _ (wpAny_of_held _ _ _ _ (h hS)))
theorem Cs (nn s now:Nat) (w:World):CallsIn Fence.wide nn Tryz.prog 87 #[.pointer (some ⟨s,0,none⟩),.int .u64 (now:Int)] w fun e w'=>e= .returned (.func (.func 134) #[] #[.pointer (some ⟨w.heap.size,0,none⟩),.pointer (some ⟨w.heap.size+1,0,none⟩)])∧w'=(w.alloc (.cells #[.pointer (some ⟨s,0,none⟩)] 84)).alloc (.cells #[.int .u64 (now:Int)] 25):=by
 refine callsIn_wide.2 ?_
 go_enter Tryz.func87,Tryz.ntmps87
 go_wp2
 go_ret
 exact⟨by simp,rfl⟩
theorem kJ:(Tryz.prog.info? 3).map (fun i=>(i.zero,i.size,i.bytes))=some (some (.int .i64 0),1,8):=by kernel_rfl
theorem cell_one_new (w:World) (v:Value) (t:TypeId): ∀j u,[v][j]? =some u→(w.alloc (.cells #[v] t)).cell? ((⟨w.heap.size,0,none⟩:Addr).add j)=some u:=by
 intro j u hu
 have hadd:(⟨w.heap.size,0,none⟩:Addr).add j=⟨w.heap.size,j,none⟩:=by unfold Addr.add;split<;>simp_all
 rw[hadd]
 unfold World.cell?
 simp only[(MapKept.heap_alloc w _).1]
 simpa using hu
theorem qd {W W':World} (hb:Below W.heap.size W W'):KeepsOthers W W':=⟨hb.size,fun k o hk _=>(hb.block k (Array.getElem?_eq_some_iff.1 hk).1).trans hk⟩
structure Rf (w W:World) (base s P:Nat) (v:Value) (now q0 q1 q2 q3 q4 n5:Nat) (M:List bL) (xs:List Nat) (lv:Value):Prop where
 pep:cE W base s P v M
 b0:Boxed W q0 84 (.pointer (some ⟨s,0,none⟩))
 b1:Boxed W q1 25 (.int .u64 (now:Int))
 b2:Boxed W q2 57 lv
 b3:Boxed W q3 84 (.pointer (some ⟨s,0,none⟩))
 b4:Boxed W q4 25 (.int .u64 (now:Int))
 row:W.ownsRow n5 3 1 lv xs.length (iw xs)
 sz:n5≤W.heap.size
 fr:Fr (fun b=>some b=v.ownBlock) w W
section
variable {w W W':World} {base s P:Nat} {v:Value} {now q0 q1 q2 q3 q4 n5:Nat} {M:List bL} {xs:List Nat} {lv:Value}
theorem Rf.below (h:Rf w W base s P v now q0 q1 q2 q3 q4 n5 M xs lv) (hb:Below W.heap.size W W'):Rf w W' base s P v now q0 q1 q2 q3 q4 n5 M xs lv:=
 ⟨h.pep.below hb,(hb.block _ h.b0.lt).trans h.b0,(hb.block _ h.b1.lt).trans h.b1,(hb.block _ h.b2.lt).trans h.b2,(hb.block _ h.b3.lt).trans h.b3,(hb.block _ h.b4.lt).trans h.b4,a7 h.row (fun b hk=>hb.block b (ay h.row hk).2.1),Nat.le_trans h.sz hb.size,h.fr.trans (Fr.aC hb)⟩
theorem Rf.alloc (h:Rf w W base s P v now q0 q1 q2 q3 q4 n5 M xs lv) (o:Obj):Rf w (W.alloc o) base s P v now q0 q1 q2 q3 q4 n5 M xs lv:=h.below ((Below.refl _ _).alloc (Nat.le_refl _) _)
theorem fB {W:World} {B l:Nat} {t:TypeId} {u:Value} {o o':Obj} (h:Boxed W B t u) (hl:W.heap[l]? =some o) (ho:o.isCells=false):Boxed (W.putObj l o') B t u:=by
 refine(World.putObj_heap_other ?_).trans h
 rintro rfl
 rw[show W.heap[B]? =_ from h] at hl
 cases hl
 cases ho
theorem dn {W:World} {B:Nat} {t:TypeId} {u:Value} (h:Boxed W B t u) {a:Addr} (hne:B≠a.block) (x:Value):Boxed (W.setCell a x) B t u:=(Below.heap_setCell _ _ _ _ hne).trans h
theorem Rf.put (h:Rf w W base s P v now q0 q1 q2 q3 q4 n5 M xs lv) (hw:w.heap.size≤n5) {l:Nat} {o:Obj} (o':Obj) (hn:n5≤l) (hl:W.heap[l]? =some o) (ho:o.isCells=false):Rf w (W.putObj l o') base s P v now q0 q1 q2 q3 q4 n5 M xs lv:=by
 have hne: ∀{b:Nat} {c:Array Value} {t:TypeId} {z:Nat×Nat},W.heap[b]? =some (.cells c t z)→(W.putObj l o').heap[b]? =W.heap[b]? :=fun {b c t z} hb=>World.putObj_heap_other (by
  rintro rfl
  rw[hb] at hl
  cases hl
  cases ho)
 refine⟨h.pep.kept (by simp) (hne h.pep.blk) (fun b hb=> ?_),fB h.b0 hl ho,fB h.b1 hl ho,fB h.b2 hl ho,fB h.b3 hl ho,fB h.b4 hl ho,a7 h.row (fun b hb=> ?_),by simpa using h.sz,?_⟩
 ·obtain⟨_,_,cur,hc⟩:=ay h.pep.own hb
  exact hne hc
 ·obtain⟨_,_,cur,hc⟩:=ay h.row hb
  exact hne hc
 ·exact⟨h.fr.os,h.fr.tape,h.fr.output,by simpa using h.fr.size,fun b hb hS=>(World.putObj_heap_other (by omega)).trans (h.fr.block b hb hS)⟩
theorem Rf.fill (h:Rf w W base s P v now q0 q1 q2 q3 q4 n5 M xs lv) {g cap k:Nat} (hv:v= .slice (some ⟨g,0,none⟩) M.length cap) (hk:k<M.length) (x:bL) (hx:x.ok) (hg:g<w.heap.size) (hq:w.heap.size≤q0∧w.heap.size≤q1∧w.heap.size≤q2∧w.heap.size≤q3∧w.heap.size≤q4) (hw:w.heap.size≤n5):
  Rf w ((((W.setCell ⟨g,k*4,none⟩ (.int .u64 (x.b:Int))).setCell ⟨g,k*4+1,none⟩ (.int .u64 (x.p:Int))).setCell ⟨g,k*4+2,none⟩ (.int .u64 (x.l:Int))).setCell ⟨g,k*4+3,none⟩ (.int .u64 (x.d:Int))) base s P v now q0 q1 q2 q3 q4 n5 (M.set k x) xs lv:=by
 obtain⟨h0,h1,h2,h3,h4⟩:=hq
 have bs: ∀{B:Nat} {t:TypeId} {u:Value} (u0 u1 u2 u3:Value),w.heap.size≤B→Boxed W B t u→Boxed ((((W.setCell ⟨g,k*4,none⟩ u0).setCell ⟨g,k*4+1,none⟩ u1).setCell ⟨g,k*4+2,none⟩ u2).setCell ⟨g,k*4+3,none⟩ u3) B t u:=
  fun u0 u1 u2 u3 hB hb=>dn (dn (dn (dn hb (by simp;omega) _) (by simp;omega) _) (by simp;omega) _) (by simp;omega) _
 refine⟨h.pep.put hv hk x hx,bs _ _ _ _ h0 h.b0,bs _ _ _ _ h1 h.b1,bs _ _ _ _ h2 h.b2,bs _ _ _ _ h3 h.b3,bs _ _ _ _ h4 h.b4,?_,by simpa using h.sz,?_⟩
 ·exact ownsRow_setCell_below (ownsRow_setCell_below (ownsRow_setCell_below (ownsRow_setCell_below h.row (by simp;omega) _) (by simp;omega) _) (by simp;omega) _) (by simp;omega) _
 ·exact(((h.fr.setCell (a:=⟨g,k*4,none⟩) (by rw[hv];rfl) _).setCell (a:=⟨g,k*4+1,none⟩) (by rw[hv];rfl) _).setCell (a:=⟨g,k*4+2,none⟩) (by rw[hv];rfl) _).setCell (a:=⟨g,k*4+3,none⟩) (by rw[hv];rfl) _
theorem Rf.more (h:Rf w W base s P v now q0 q1 q2 q3 q4 n5 M xs lv) {w1:World} {k:Nat} {v':Value} {tmp:Obj} (hs:s<w.heap.size) (hg: ∀b,v.ownBlock=some b→b<w.heap.size)
  (hq:w.heap.size≤q0∧w.heap.size≤q1∧w.heap.size≤q2∧w.heap.size≤q3∧w.heap.size≤q4) (hq5:q0<n5∧q1<n5∧q2<n5∧q3<n5∧q4<n5) (hne:q0≠q2∧q1≠q2∧q3≠q2∧q4≠q2)
  (hown:w1.ownsRow n5 3 1 v' (xs.length+1) (iw xs++[.int .i64 (k:Int)])) (hgrow:(W.alloc tmp).grownBy w1 lv.ownBlock):
  Boxed w1 q2 57 lv∧Rf w (w1.setCell ⟨q2,0,none⟩ v') base s P v now q0 q1 q2 q3 q4 n5 M (xs++[k]) v'∧KeepsOthers W (w1.setCell ⟨q2,0,none⟩ v'):=by
 obtain⟨h0,h1,h2,h3,h4⟩:=hq
 obtain⟨p0,p1,p2,p3,p4⟩:=hq5
 obtain⟨e0,e1,e3,e4⟩:=hne
 have hb:Below n5 W w1:=((Below.refl n5 W).alloc h.sz tmp).grown hgrow (by have:=h.sz;simp;omega) (fun j ej=>(h.row.lt j ej).1)
 have hs5:=Nat.le_trans h.sz hb.size
 have bx: ∀{B:Nat} {t:TypeId} {u:Value},B<n5→Boxed W B t u→Boxed w1 B t u:=fun hB hx=>(hb.block _ hB).trans hx
 have hpw:cE w1 base s P v M:=h.pep.kept hb.size (hb.block s (by omega)) (fun b hk=>hb.block b (by have:=hg b hk;omega))
 refine⟨bx p2 h.b2,⟨hpw.kept (by simp) (Below.heap_setCell _ _ _ _ (by simp;omega)) (fun b hk=>Below.heap_setCell _ _ _ _ (by have:=hg b hk;simp;omega)),dn (bx p0 h.b0) e0 _,dn (bx p1 h.b1) e1 _,(bx p2 h.b2).set v',dn (bx p3 h.b3) e3 _,dn (bx p4 h.b4) e4 _,?_,by simpa using hs5,?_⟩,?_⟩
 ·have:iw (xs++[k])=iw xs++[.int .i64 (k:Int)]:=by simp[iw]
  rw[this,List.length_append]
  exact ownsRow_setCell_below hown p2 _
 ·have hf:Fr (fun b=>some b=v.ownBlock) w w1:=⟨hb.os.trans h.fr.os,hb.tape.trans h.fr.tape,hb.output.trans h.fr.output,Nat.le_trans h.fr.size hb.size,fun b hbw hS=>(hb.block b (by omega)).trans (h.fr.block b hbw hS)⟩
  exact⟨hf.os,hf.tape,hf.output,by simpa using hf.size,fun b hbw hS=>(Below.heap_setCell _ _ _ _ (by simp;omega)).trans (hf.block b hbw hS)⟩
 ·refine((KeepsOthers.alloc W tmp).trans (KeepsOthers.of_grownBy hgrow fun j o ej hj=> ?_)).trans (KeepsOthers.setCell _ _ _)
  obtain⟨_,_,cur,hc⟩:=ay (h.row.alloc tmp) ej
  rw[hc] at hj
  cases hj
  rfl
end
theorem vm {w:World} {base s P:Nat} {v:Value} {L:List bL} (h:cE w base s P v L) (now:Nat) (hn:now<18446744073709551616):
  CallsIn Fence.wide 4 Tryz.prog 45 #[.pointer (some ⟨s,0,none⟩),.int .u64 (now:Int)] w fun e w'=> ∃lv,e= .returned lv∧w'.ownsRow w.heap.size 3 1 lv (gd L now L.length).length (iw (gd L now L.length))∧cE w' base s P v (L.map (fZ now))∧Fr (fun b=>some b=v.ownBlock) w w':=by
 obtain⟨i0,hi,hz0,hz1,hz2⟩:=info_parts kJ
 obtain⟨a,cap,hv,hc1,hc2⟩:=h.form
 have hlen:=h.f.len
 have hs:=h.lt
 have hvw: ∀b,v.ownBlock=some b→b<w.heap.size:=fun b hb=>(ay h.own hb).2.1
 refine callsIn_of_wp_marks Tryz.func45 rfl trivial ?_ rfl
 simp only[Tryz.ntmps45,List.size_toArray,List.length_cons,List.length_nil,Nat.reduceAdd,Nat.reduceSub,Array.replicate_succ,Array.replicate_zero,List.push_toArray,List.append_toArray,List.nil_append,List.cons_append]
 gi_wp2_with (refine⟨trivial,?_⟩;gi_at_call 87;refine(Cs _ s now _).mono ?_;rintro e w' ⟨rfl,rfl⟩)
 obtain⟨W0,hW0⟩: ∃W0,(((((w.alloc (.cells #[.pointer (some ⟨s,0,none⟩)] 84)).alloc (.cells #[.int .u64 (now:Int)] 25)).alloc (.cells #[.slice none 0 0] 57)).alloc (.cells #[.pointer (some ⟨s,0,none⟩)] 84)).alloc (.cells #[.int .u64 (now:Int)] 25))=W0:=⟨_,rfl⟩
 have hR0:Rf w W0 base s P v now w.heap.size (w.heap.size+1) (w.heap.size+1+1) (w.heap.size+1+1+1) (w.heap.size+1+1+1+1) W0.heap.size (cU L now 0) (gd L now 0) (.slice none 0 0):=by
  have hbw:Below w.heap.size w W0:=by rw[←hW0];exact(((((Below.refl _ w).alloc (Nat.le_refl _) _).alloc (by simp) _).alloc (by simp;omega) _).alloc (by simp;omega) _).alloc (by simp;omega) _
  have x0:=Boxed.new w 84 (.pointer (some ⟨s,0,none⟩))
  have x1:=Boxed.new (w.alloc (.cells #[.pointer (some ⟨s,0,none⟩)] 84)) 25 (.int .u64 (now:Int))
  have x2:=Boxed.new ((w.alloc (.cells #[.pointer (some ⟨s,0,none⟩)] 84)).alloc (.cells #[.int .u64 (now:Int)] 25)) 57 (.slice none 0 0)
  have x3:=Boxed.new (((w.alloc (.cells #[.pointer (some ⟨s,0,none⟩)] 84)).alloc (.cells #[.int .u64 (now:Int)] 25)).alloc (.cells #[.slice none 0 0] 57)) 84 (.pointer (some ⟨s,0,none⟩))
  have x4:=Boxed.new ((((w.alloc (.cells #[.pointer (some ⟨s,0,none⟩)] 84)).alloc (.cells #[.int .u64 (now:Int)] 25)).alloc (.cells #[.slice none 0 0] 57)).alloc (.cells #[.pointer (some ⟨s,0,none⟩)] 84)) 25 (.int .u64 (now:Int))
  simp only[World.size_alloc] at x1 x2 x3 x4
  rw[rM L now|>.symm] at h
  refine⟨h.below hbw,?_,?_,?_,?_,?_,World.ownsRow_nil _ _ _ _,Nat.le_refl _,Fr.aC hbw⟩
  ·rw[←hW0];exact(((x0.alloc _).alloc _).alloc _).alloc _
  ·rw[←hW0];exact((x1.alloc _).alloc _).alloc _
  ·rw[←hW0];exact(x2.alloc _).alloc _
  ·rw[←hW0];exact x3.alloc _
  ·rw[←hW0];exact x4
 have hs0:W0.heap.size=w.heap.size+1+1+1+1+1:=by rw[←hW0];simp
 rw[hW0]
 refine oB (gf:=134) (lb:= #[.pointer (some ⟨w.heap.size+1+1+1,0,none⟩),.pointer (some ⟨w.heap.size+1+1+1+1,0,none⟩)]) rfl (enters_of Tryz.func134 (by kernel_rfl) rfl)
  (fun k W=> ∃lv,Rf w W base s P v now w.heap.size (w.heap.size+1) (w.heap.size+1+1) (w.heap.size+1+1+1) (w.heap.size+1+1+1+1) W0.heap.size (cU L now k) (gd L now k) lv)
  (fun k=> ∃x,L[k]? =some x∧gC now x=false) (fun k=> ∃x,L[k]? =some x∧gC now x=true) (fun k=> .int .i64 (k:Int)) L.length
  (fun k=>{tmps:= #[.pointer (some ⟨s,0,none⟩),.int .u64 (now:Int),.pointer (some ⟨w.heap.size,0,none⟩),.pointer (some ⟨w.heap.size+1,0,none⟩),.slice none 0 0,.pointer (some ⟨w.heap.size+1+1,0,none⟩),.int .i64 (k:Int),.pointer (some ⟨s,0,none⟩),.bool false,.pointer (some ⟨s,0,none⟩),.int .u64 (now:Int),.func (.func 134) #[] #[.pointer (some ⟨w.heap.size+1+1+1,0,none⟩),.pointer (some ⟨w.heap.size+1+1+1+1,0,none⟩)],.int .i64 (k:Int),undef,undef,undef,undef,undef,undef,undef,undef,undef,undef,undef,undef,undef,undef,undef,undef,undef,undef,undef,undef],defers:=[]})
  (fun k W o ⟨lv,hh⟩=>⟨lv,hh.alloc o⟩) (fun k W l o o' hl ho hc ⟨lv,hh⟩=>⟨lv,hh.put (by omega) o' hl ho hc⟩) ?no ⟨_,hR0⟩ ?iter ?assign ?body ?done
 case no=>
  rintro k W ⟨x,hx,hd⟩ ⟨lv,hh⟩
  refine⟨lv,?_⟩
  have e1:=wY hx hd
  have e2:=zC hx hd
  exact⟨by rw[e1];exact hh.pep,hh.b0,hh.b1,hh.b2,hh.b3,hh.b4,by rw[e2];exact hh.row,hh.sz,hh.fr⟩
 case iter=>
  intro l J' W hJ hA hN hY h0
  obtain⟨lv0,hh0⟩:=hJ 0 W h0
  refine CC 3 (by decide) l (w.heap.size+1+1+1) (w.heap.size+1+1+1+1) s cap now a L hlen J' hA (fun k W hk=> ?_) (fun k x W hx hd hk=>hN k W ⟨x,hx,hd⟩ hk) (fun k x W hx hd hk=>hY k W ⟨x,hx,hd⟩ hk) W (by rw[←hv];exact hh0.pep.c1) h0
  obtain⟨lv,hh⟩:=hJ k W hk
  refine⟨hh.b3,hh.b4,fun i x hki hx=> ?_⟩
  have hil:i<L.length:=(List.getElem?_eq_some_iff.1 hx).1
  obtain⟨g,cap',hv',_,_,_,_,_,hcs⟩:=hh.pep.cells (by rw[jH];omega)
  rw[hv] at hv'
  simp at hv'
  exact⟨g,hv'.1,hcs i x (by rw[mz hki (by omega)];exact hx)⟩
 case assign=>
  intro l k W K hK
  gi_wp2
  simpa using hK
 case body=>
  rintro l k W ⟨x,hx,hd⟩ ⟨lv,hh⟩
  have hkl:k<L.length:=(List.getElem?_eq_some_iff.1 hx).1
  have hxM:(cU L now k)[k]? =some x:=by rw[mz (Nat.le_refl _) (by omega)];exact hx
  have hok:x.ok:=hh.pep.f.all x (List.mem_of_getElem? hxM)
  have hlM:(cU L now k).length=L.length:=jH L now k
  obtain⟨g,cap',hv',_,_,hgW,hgs,hfz,hcs⟩:=hh.pep.cells (by omega)
  obtain⟨y0,y1,y2,y3⟩:=hcs k x hxM
  have hgw:g<w.heap.size:=hvw g (by rw[hv'];rfl)
  have c1:=hh.pep.c1
  have HV:=aa hv'
  rw[hv'] at c1
  have hkl':(k:Int)<((cU L now k).length:Int):=by omega
  generalize hMM:cU L now k=M at*
  have a0:=hh.b0.cell
  have a1:=hh.b1.cell
  have HFL:=aa (fun w=>nW w x now hok hn)
  have HH:=aa hh
  have HX:=aa (sZ hok now)
  have HKM:Hid (k<M.length):=by unfold Hid;omega
  have HLM:=aa hlM
  have HMM:=aa hMM
  have HXL:=aa hx
  have HD:=aa hd
  clear hh hcs hfz hok hlM hMM hd hx hc1 hc2 hv' hv hR0 hW0 h hkl
  gi_wp2
  refine aY (fun w'=>w'.cell? ⟨w.heap.size,0,none⟩=some (.pointer (some ⟨s,0,none⟩))∧w'.cell? ⟨w.heap.size+1,0,none⟩=some (.int .u64 (now:Int))∧w'.cell? ⟨s,1,none⟩=some (.slice (some ⟨g,0,none⟩) M.length cap')) (by kernel_rfl) (by kernel_rfl) (by rintro⟨a,w,h⟩;exact absurd (show Exit.outgrown=Exit.normal from h.1) (by simp)) ⟨a0,a1,c1⟩ (fun hHeld=> ?_)
  refine aH 0 (v:= ?_) rfl ?v0 ?_
  case v0=>(intro w hSw;(try dsimp only at hSw);go_simp;try with_reducible rfl)
  try simp only[aq]
  refine aH 1 (v:= ?_) rfl ?v1 ?_
  case v1=>(intro w hSw;(try dsimp only at hSw);go_simp;try with_reducible rfl)
  try simp only[aq]
  refine aH 2 (v:= ?_) rfl ?v2 ?_
  case v2=>(intro w hSw;(try dsimp only at hSw);go_simp;try with_reducible rfl)
  try simp only[aq]
  refine aH 3 (v:= ?_) rfl ?v3 ?_
  case v3=>(intro w hSw;(try dsimp only at hSw);go_simp;try with_reducible rfl)
  try simp only[aq]
  refine aH 4 (v:= ?_) rfl ?v4 ?_
  case v4=>(intro w hSw;(try dsimp only at hSw);go_simp;try with_reducible rfl)
  try simp only[aq]
  refine aH 5 (v:= ?_) rfl ?v5 ?_
  case v5=>(intro w hSw;(try dsimp only at hSw);go_simp;try with_reducible rfl)
  try simp only[aq]
  refine aH 6 (v:= ?_) rfl ?v6 ?_
  case v6=>(intro w hSw;(try dsimp only at hSw);go_simp;try with_reducible rfl)
  try simp only[aq]
  refine aH 7 (v:= ?_) rfl ?v7 ?_
  case v7=>(intro w hSw;(try dsimp only at hSw);go_simp;try with_reducible rfl)
  try simp only[aq]
  refine aH 8 (v:= ?_) rfl ?v8 ?_
  case v8=>(intro w hSw;(try dsimp only at hSw);go_simp;try with_reducible rfl)
  try simp only[aq]
  refine aH 9 (v:= ?_) rfl ?v9 ?_
  case v9=>(intro w hSw;(try dsimp only at hSw);go_simp;try with_reducible rfl)
  try simp only[aq]
  refine aH 10 (v:= ?_) rfl ?v10 ?_
  case v10=>(intro w hSw;(try dsimp only at hSw);go_simp;try with_reducible rfl)
  try simp only[aq]
  refine aH 12 (v:= ?_) rfl ?v12 ?_
  case v12=>(intro w hSw;(try dsimp only at hSw);go_simp;try with_reducible rfl)
  try simp only[aq]
  refine a8 11 rfl (fun K hK=> ?_)
  go_simp
  refine hK.out _ _ ?_ (fun hHeld=> ?_)
  ·exact hHeld
  clear hK K
  try simp only[aq]
  refine a8 13 rfl (fun K hK=> ?_)
  go_simp
  refine(HFL.out _).mono ?_
  rintro e w1 ⟨rfl,c',c2,hw⟩
  have hb:Below W.heap.size W w1:=by rw[hw];exact((((Below.refl _ W).drew).alloc (Nat.le_refl _) _).alloc (by simp) _).drew
  clear hw
  have HBW:=aa hb
  have hh1:=HH.out.below hb
  have HH1:=aa hh1
  obtain⟨g',cap'',hv2,_,_,_,_,hfz',hcs'⟩:=hh1.pep.cells (by have:=HKM.out;omega)
  rw[HV.out] at hv2
  simp only[Value.slice.injEq,Option.some.injEq,Addr.mk.injEq,and_true,true_and] at hv2
  obtain⟨rfl,rfl⟩:=hv2
  obtain⟨y0',y1',y2',y3'⟩:=hcs' k x hxM
  have f0':=hfz' (k*4)
  have f1':=hfz' (k*4+1)
  have f2':=hfz' (k*4+2)
  have f3':=hfz' (k*4+3)
  clear hcs' hfz' hh1
  go_wp2_with fail
  refine hK.out _ _ ?_ (fun hHeld=> ?_)
  ·exact⟨HH1.out.b0.cell,HH1.out.b1.cell,by have:=HH1.out.pep.c1;rwa [HV.out] at this⟩
  clear hK K
  try simp only[aq]
  refine aH 14 (v:= ?_) rfl ?v14 ?_
  case v14=>(intro w hSw;(try dsimp only at hSw);go_simp;try with_reducible rfl)
  try simp only[aq]
  refine a8 15 rfl (fun K hK=> ?_)
  go_simp
  have hh2:=HH1.out.fill HV.out HKM.out (dA x now) HX.out hgw ⟨Nat.le_refl _,by omega,by omega,by omega,by omega⟩ (by omega)
  refine hK.out _ _ ?_ (fun hHeld=> ?_)
  ·exact⟨hh2.b0.cell,hh2.b1.cell,by have:=hh2.pep.c1;rwa [HV.out] at this⟩
  clear hK K
  try simp only[aq]
  refine wpAnyH_done (by kernel_rfl) ?_ _
  skip
  have HH2:=aa hh2
  have hsz2:=hh2.sz
  have HK2:Hid (KeepsOthers W ((((w1.setCell ⟨g,k*4,none⟩ (.int .u64 ((dA x now).b:Int))).setCell ⟨g,k*4+1,none⟩ (.int .u64 ((dA x now).p:Int))).setCell ⟨g,k*4+2,none⟩ (.int .u64 ((dA x now).l:Int))).setCell ⟨g,k*4+3,none⟩ (.int .u64 ((dA x now).d:Int)))):=((((qd HBW.out).trans (KeepsOthers.setCell _ _ _)).trans (KeepsOthers.setCell _ _ _)).trans (KeepsOthers.setCell _ _ _)).trans (KeepsOthers.setCell _ _ _)
  generalize (((w1.setCell ⟨g,k*4,none⟩ (.int .u64 ((dA x now).b:Int))).setCell ⟨g,k*4+1,none⟩ (.int .u64 ((dA x now).p:Int))).setCell ⟨g,k*4+2,none⟩ (.int .u64 ((dA x now).l:Int))).setCell ⟨g,k*4+3,none⟩ (.int .u64 ((dA x now).d:Int))=W2 at HH2 hsz2 hh2 HK2⊢
  have r2:=hh2.b2.cell
  have hdl:=lZ L now k
  have hk32:k<32:=by have:=HKM.out;have:=HLM.out;omega
  clear hh2 f0' f1' f2' f3' y0' y1' y2' y3'
  gi_wp2_with (gi_at_builtin;refine wpListIn_append_own _ rfl _ _ 57 rfl W0.heap.size 3 i0 (.int .i64 0) 1 8 Tryz.underlying57 hi hz0 hz1 hz2 rfl (by decide) _ _ _ rfl (HH2.out.row.alloc _) ⟨W2.heap.size,0,none⟩ 1 1 [.int .i64 (k:Int)] rfl rfl (cell_one_new _ _ _) (by simp[Value.oneCell']) (by unfold maxLen;omega) (by omega) (by simp;omega) ?_;intro v' w3 hown hgrow _;obtain⟨g9,cap9,rfl⟩:=ownsRow_succ hown;have hX:=HH2.out.more hs hvw ⟨Nat.le_refl _,by omega,by omega,by omega,by omega⟩ ⟨by omega,by omega,by omega,by omega,by omega⟩ ⟨by omega,by omega,by omega,by omega⟩ hown hgrow;have HXX:=aa hX;obtain⟨hbx,_,_⟩:=hX;have hc1:=hbx.cell;have hf1:=hbx.frozen;clear hown hgrow hbx)
  refine⟨(HK2.out.trans HXX.out.2.2).from _,?_⟩
  have e1:=ux HXL.out HD.out
  have e2:=xj HXL.out HD.out
  have hz:=HXX.out.2.1
  rw[←HMM.out] at hz
  rw[e1,e2]
  first|exact⟨_,hz⟩|(rw[hs0] at hz;exact⟨_,hz⟩)
 case done=>
  rintro D W hD ⟨lv,hh⟩ hK
  have hc:=hh.b2.cell
  gi_wp2
  have hh2:=hh.put (by omega) (.deferred none) hD hK rfl
  refine⟨by simp,.inl ⟨_,_,rfl,run_takeDeferred hK,?_⟩⟩
  refine⟨_,results_tmp rfl _ _ _,lv,rfl,?_,?_,hh2.fr⟩
  ·have:=hh2.row
   rcases this.2 with e|⟨g,cap,cur,e,hb,rest⟩
   ·exact⟨this.1,.inl e⟩
   ·exact⟨this.1,.inr ⟨g,cap,cur,e,by omega,rest⟩⟩
  ·rw[←vz]
   exact hh2.pep
theorem vy {w:World} {base s P:Nat} {v:Value} {L:List bL} (h:cE w base s P v L) (now:Nat) (hn:now<18446744073709551616):
  Calls Tryz.prog 45 #[.pointer (some ⟨s,0,none⟩),.int .u64 (now:Int)] w fun e w'=> ∃lv,e= .returned lv∧w'.ownsRow w.heap.size 3 1 lv (gd L now L.length).length (iw (gd L now L.length))∧cE w' base s P v (L.map (fZ now))∧Fr (fun b=>some b=v.ownBlock) w w':=
 callsIn_wide.1 (vm h now hn)
end Go.Proofs.YtjlbmmiomfpgiaaGreatDoor.Cb
namespace Go.Proofs.YtjlbmmiomfpgiaaGreatDoor.Gt
open Go.RowKit Go.Lib
theorem aa {p:Prop} (h:p):Hid p:=h
def aw {α:Type} (f:Nat→α) (i:Nat) (x:α):Nat→α:=fun j=>if j=i then x else f j
theorem aj {α:Type} (f:Nat→α) (i:Nat) (x:α):aw f i x i=x:=by simp[aw]
theorem af {α:Type} (f:Nat→α) (i:Nat) (x:α) (j:Nat) (h:j≠i):aw f i x j=f j:=by simp[aw,h]
theorem au (w:World) (a:Addr) (x u:Value) (h:w.cell? a=some u):(w.setCell a x).cell? a=some x:=World.cell?_setCell_same _ _ _ h
theorem ab (w:World) (b o b' o':Nat) (x:Value) (h: ¬(b=b'∧o=o')):(w.setCell ⟨b,o,none⟩ x).cell? ⟨b',o',none⟩=w.cell? ⟨b',o',none⟩:=
 World.cell?_setCell_other _ _ _ _ (by intro e;simp only[Addr.mk.injEq,and_true] at e;exact h e)
theorem aB (w:World) (c:Array Value) (t:TypeId) (i:Nat):(w.alloc (.cells c t)).cell? ⟨w.heap.size,i,none⟩=c[i]? :=by
 unfold World.cell?
 simp only[(MapKept.heap_alloc w (.cells c t)).1]
 rfl
theorem aF (w:World) (c:Array Value) (t:TypeId) (i:Nat):(w.alloc (.cells c t)).frozen? ⟨w.heap.size,i,none⟩=false:=by
 unfold World.frozen?
 simp only[(MapKept.heap_alloc w (.cells c t)).1]
 simp
structure Fr (S:Nat→Prop) (w w':World):Prop where
 os:w'.os=w.os
 tape:w'.tape=w.tape
 output:w'.output=w.output
 size:w.heap.size≤w'.heap.size
 block: ∀k,k<w.heap.size→ ¬S k→w'.heap[k]? =w.heap[k]?
section
variable {S S':Nat→Prop} {w w' w'':World}
theorem Fr.setCell (h:Fr S w w') {a:Addr} (hb:S a.block) (u:Value):Fr S w (w'.setCell a u):=
 ⟨h.os,h.tape,h.output,by simpa using h.size,fun k hk hn=>(Below.heap_setCell _ _ _ _ (fun e=>hn (by rw[e];exact hb))).trans (h.block k hk hn)⟩
theorem Fr.cell (h:Fr S w w') {a:Addr} (hk:a.block<w.heap.size) (hn: ¬S a.block):w'.cell? a=w.cell? a:=World.cell?_of_block (h.block _ hk hn)
theorem Fr.aC (h:Below w.heap.size w w'):Fr S w w':=⟨h.os,h.tape,h.output,h.size,fun k hk _=>h.block k hk⟩
theorem below_drewN {B:Nat} {w w':World} (h:Below B w w') (q:Nat):Below B w (w'.drewN q):=⟨h.os,h.tape,h.output,h.size,h.block⟩
end
structure aE (w:World) (b g n:Nat) (G S:Nat→Nat):Prop where
 n1:1≤n
 n2:n≤1024
 bg:b≠g
 sl: ∃cp,w.cell? ⟨b,0,none⟩=some (.slice (some ⟨g,0,none⟩) n cp)
 gn: ∀x,x<n→w.cell? ⟨g,x*2,none⟩=some (.int .u32 (G x:Int))
 st: ∀x,x<n→w.cell? ⟨g,x*2+1,none⟩=some (.int .i64 (S x:Int))
 fg: ∀o,w.frozen? ⟨g,o,none⟩=false
section
variable {w w':World} {b g n:Nat} {G S:Nat→Nat}
theorem aE.cY (h:aE w b g n G S):b<w.heap.size:=by obtain⟨cp,e⟩:=h.sl;exact World.block_lt_of_cell? w _ e
theorem aE.dD (h:aE w b g n G S):g<w.heap.size:=World.block_lt_of_cell? w _ (h.gn 0 h.n1)
theorem aE.kept (h:aE w b g n G S) (hb:w'.heap[b]? =w.heap[b]?) (hg:w'.heap[g]? =w.heap[g]?):aE w' b g n G S where
 n1:=h.n1
 n2:=h.n2
 bg:=h.bg
 sl:=h.sl.imp fun _ e=>(World.cell?_of_block hb).trans e
 gn:=fun x hx=>(World.cell?_of_block hg).trans (h.gn x hx)
 st:=fun x hx=>(World.cell?_of_block hg).trans (h.st x hx)
 fg:=fun o=>(World.frozen?_of_block hg).trans (h.fg o)
theorem aE.frame {X:Nat→Prop} (h:aE w b g n G S) (hf:Fr X w w') (h1: ¬X b) (h2: ¬X g):aE w' b g n G S:=h.kept (hf.block b h.cY h1) (hf.block g h.dD h2)
theorem aE.below (h:aE w b g n G S) (hf:Below w.heap.size w w'):aE w' b g n G S:=h.kept (hf.block b h.cY) (hf.block g h.dD)
theorem aE.alloc (h:aE w b g n G S) (o:Obj):aE (w.alloc o) b g n G S:=h.below ((Below.refl _ _).alloc (Nat.le_refl _) _)
theorem aE.eI (h:aE w b g n G S) (a:w'.heap=w.heap):aE w' b g n G S:=h.kept (by rw[a]) (by rw[a])
theorem aE.Ey (h:aE w b g n G S) (x:Nat) (hx:x<n) (v:Nat):aE (w.setCell ⟨g,x*2,none⟩ (.int .u32 (v:Int))) b g n (aw G x v) S where
 n1:=h.n1
 n2:=h.n2
 bg:=h.bg
 sl:=h.sl.imp fun _ e=>by rw[ab _ _ _ _ _ _ (fun q=>h.bg q.1.symm)];exact e
 gn:=fun y hy=>by
  by_cases e:y=x
  ·subst e;rw[aj];exact au _ _ _ _ (h.gn y hy)
  ·rw[af _ _ _ _ e,ab _ _ _ _ _ _ (by omega)];exact h.gn y hy
 st:=fun y hy=>by rw[ab _ _ _ _ _ _ (by omega)];exact h.st y hy
 fg:=fun o=>by rw[World.frozen?_setCell];exact h.fg o
theorem aE.xF (h:aE w b g n G S) (x:Nat) (hx:x<n) (v:Nat):aE (w.setCell ⟨g,x*2+1,none⟩ (.int .i64 (v:Int))) b g n G (aw S x v) where
 n1:=h.n1
 n2:=h.n2
 bg:=h.bg
 sl:=h.sl.imp fun _ e=>by rw[ab _ _ _ _ _ _ (fun q=>h.bg q.1.symm)];exact e
 gn:=fun y hy=>by rw[ab _ _ _ _ _ _ (by omega)];exact h.gn y hy
 st:=fun y hy=>by
  by_cases e:y=x
  ·subst e;rw[aj];exact au _ _ _ _ (h.st y hy)
  ·rw[af _ _ _ _ e,ab _ _ _ _ _ _ (by omega)];exact h.st y hy
 fg:=fun o=>by rw[World.frozen?_setCell];exact h.fg o
end
def hasB (n:Nat) (G S:Nat→Nat) (p:Int) (q:Nat):Bool:=decide (0≤p)&&decide (p<n)&&decide (S p.toNat≠0)&&decide (G p.toNat=q)
attribute [local go_sem ↓] Go.wp_at_zero Go.wp_at_succ
def jv:Value:= .agg #[.int .u32 0,.int .i64 0]
def cP (n:Nat):Array Value:=madeCells jv.cells (n*2)
theorem sQ (n k:Nat) (h:k<n*2):(cP n)[k]? =some ((#[Value.int .u32 0,.int .i64 0]:Array Value)[k%2]!):=by
 unfold cP madeCells jv
 simp[Value.cells,h]
theorem xf:(Tryz.prog.info? 194).map (fun i=>(i.zero,i.size,i.bytes))=some (some jv,2,16):=by kernel_rfl
theorem fS (w:World) (n:Nat) (h1:1≤n) (h2:n≤1024):
  aE ((w.alloc (.cells (cP n) 194)).alloc (.cells #[.slice (some ⟨w.heap.size,0,none⟩) n n] 134)) (w.heap.size+1) w.heap.size n (fun _=>0) (fun _=>0):=by
 have e:w.heap.size+1=(w.alloc (.cells (cP n) 194)).heap.size:=by simp
 have hg: ∀i,((w.alloc (.cells (cP n) 194)).alloc (.cells #[.slice (some ⟨w.heap.size,0,none⟩) n n] 134)).cell? ⟨w.heap.size,i,none⟩=(cP n)[i]? :=by
  intro i
  rw[←aB w (cP n) 194 i]
  simp only[World.cell?]
  rw[Below.heap_alloc _ _ _ (by simp)]
 refine⟨h1,h2,by omega,⟨n,by rw[e,aB];rfl⟩,fun x hx=> ?_,fun x hx=> ?_,fun i=> ?_⟩
 ·rw[hg,sQ n _ (by omega),show x*2%2=0 by omega];rfl
 ·rw[hg,sQ n _ (by omega),show(x*2+1)%2=1 by omega];rfl
 ·rw[←aF w (cP n) 194 i]
  simp only[World.frozen?]
  rw[Below.heap_alloc _ _ _ (by simp)]
theorem fU (n:Nat) (w:World) (h1:1≤n) (h2:n≤1024):
  Calls Tryz.prog 31 #[.int .i64 n] w fun e w'=>e= .returned (.pointer (some ⟨w.heap.size+1,0,none⟩))∧aE w' (w.heap.size+1) w.heap.size n (fun _=>0) (fun _=>0)∧Below w.heap.size w w':=by
 obtain⟨i0,hi,hz0,hz1,hz2⟩:=info_parts xf
 have hmk: ∀w,(Instr.makeSlice 132 (.int .i64 (n:Int)) (.int .i64 (n:Int))).run Tryz.prog w= .ok (.slice (some ⟨w.heap.size,0,none⟩) n n) (w.alloc (.cells (cP n) 194)):=by
  intro w
  have:=run_make w 132 194 i0 jv Tryz.underlying132 hi hz0 .i64 .i64 (n:Int) (n:Int) (by omega) (by omega) (by rw[hz2];omega) (by omega)
  rw[hz1,show(n:Int).toNat=n by omega] at this
  exact this
 have HR:=aa (fS w n h1 h2)
 clear hi hz0 hz1 hz2
 go_enter Tryz.func31,Tryz.ntmps31
 go_wp2
 go_ret
 exact⟨rfl,HR.out,((Below.refl _ _).alloc (Nat.le_refl _) _).alloc (by simp) _⟩
section
variable {w:World} {b g n:Nat} {G S:Nat→Nat}
theorem dy (h:aE w b g n G S) (p:Int) (q:Nat):
  Calls Tryz.prog 137 #[.pointer (some ⟨b,0,none⟩),.agg #[.int .i64 p,.int .u32 (q:Int)]] w fun e w'=>e= .returned (.bool (hasB n G S p q))∧Below w.heap.size w w':=by
 obtain⟨cp,e0⟩:=h.sl
 have hn2:=h.n2
 have hbb:=h.cY
 have hgg:=h.dD
 have y1: ¬b=w.heap.size:=by omega
 have y2: ¬g=w.heap.size:=by omega
 by_cases h0:p<0
 ·have hr:hasB n G S p q=false:=by unfold hasB;simp;omega
  rw[hr]
  clear h
  go_enter Tryz.func137,Tryz.ntmps137
  go_wp2
  go_quiet (fail)
  go_wp2
  go_ret
  exact⟨rfl,below_drewN ((Below.refl _ _).alloc (Nat.le_refl _) _) _⟩
 ·by_cases h1:(n:Int)≤p
  ·have hr:hasB n G S p q=false:=by unfold hasB;simp;omega
   rw[hr]
   clear h
   go_enter Tryz.func137,Tryz.ntmps137
   go_wp2
   go_quiet (fail)
   go_wp2
   go_ret
   exact⟨rfl,below_drewN ((Below.refl _ _).alloc (Nat.le_refl _) _) _⟩
  ·obtain⟨x,rfl⟩:=Int.eq_ofNat_of_zero_le (show 0≤p by omega)
   have hx:x<n:=by omega
   have e1:=h.gn x hx
   have e2:=h.st x hx
   have hr:hasB n G S x q=(decide (¬(S x:Int)=0)&&decide ((G x:Int)=q)):=by
    unfold hasB
    have:(x:Int)<n:=by omega
    simp only[Int.toNat_natCast]
    rw[decide_eq_true (show(0:Int)≤x by omega),decide_eq_true this]
    simp only[Bool.true_and]
    congr 1
    ·exact decide_eq_decide.2 (by omega)
    ·exact decide_eq_decide.2 (by omega)
   rw[hr]
   clear h hr
   go_enter Tryz.func137,Tryz.ntmps137
   go_wp2
   go_quiet (fail)
   go_wp2
   go_region
   all_goals go_wp2
   all_goals go_ret
   ·rename_i hz
    exact⟨by simp[hz],(below_drewN ((Below.refl _ _).alloc (Nat.le_refl _) _) _).alloc (by simp) _⟩
   ·exact⟨by simp[bne,BEq.beq],(below_drewN ((Below.refl _ _).alloc (Nat.le_refl _) _) _).alloc (by simp) _⟩
end
theorem nh {n:Nat} {G S:Nat→Nat} {p:Int} {q:Nat} (h:hasB n G S p q=true): ∃x:Nat,p=x∧x<n∧S x≠0∧G x=q:=by
 unfold hasB at h
 simp only[Bool.and_eq_true,decide_eq_true_eq] at h
 obtain⟨x,rfl⟩:=Int.eq_ofNat_of_zero_le h.1.1.1
 simp only[Int.toNat_natCast] at h
 exact⟨x,rfl,by omega,h.1.2,h.2⟩
theorem oM {n:Nat} {G S:Nat→Nat} {x q:Nat} (hx:x<n) (hs:S x≠0) (hg:G x=q):hasB n G S x q=true:=by
 unfold hasB
 simp only[Int.toNat_natCast,Bool.and_eq_true,decide_eq_true_eq]
 exact⟨⟨⟨by omega,by omega⟩,hs⟩,hg⟩
section
variable {w:World} {b g n:Nat} {G S:Nat→Nat}
theorem ry (h:aE w b g n G S) (p:Int) (q:Nat) (hh:hasB n G S p q=false):
  Calls Tryz.prog 96 #[.pointer (some ⟨b,0,none⟩),.agg #[.int .i64 p,.int .u32 (q:Int)]] w fun e w'=>e= .returned (.tuple #[.int .i64 0,.bool false])∧Below w.heap.size w w':=by
 have HH:=aa (dy (h.alloc (.cells #[.int .i64 p,.int .u32 (q:Int)] 51)) p q)
 rw[hh] at HH
 clear h
 go_enter Tryz.func96,Tryz.ntmps96
 go_wp2_with (go_at_call 137;refine(HH.out).mono ?_;rintro e w1 ⟨rfl,hb⟩;have HB:=aa hb;clear hb)
 go_ret2
 exact⟨rfl,((Below.refl _ _).alloc (Nat.le_refl _) _).trans (HB.out.mono (by simp))⟩
theorem r7 (h:aE w b g n G S) (x q:Nat) (hx:x<n) (hs:S x≠0) (hg:G x=q):
  Calls Tryz.prog 96 #[.pointer (some ⟨b,0,none⟩),.agg #[.int .i64 (x:Int),.int .u32 (q:Int)]] w fun e w'=>e= .returned (.tuple #[.int .i64 (S x:Int),.bool true])∧Below w.heap.size w w':=by
 have HH:=aa (dy (h.alloc (.cells #[.int .i64 (x:Int),.int .u32 (q:Int)] 51)) x q)
 rw[oM hx hs hg] at HH
 have HA:Hid (∀w1,Below (w.alloc (.cells #[.int .i64 (x:Int),.int .u32 (q:Int)] 51)).heap.size (w.alloc (.cells #[.int .i64 (x:Int),.int .u32 (q:Int)] 51)) w1→
   (aE w1 b g n G S∧w1.cell? ⟨w.heap.size,0,none⟩=some (.int .i64 (x:Int))∧Below w.heap.size w w1)):=by
  intro w1 hb
  refine⟨(h.alloc _).below hb,?_,((Below.refl _ _).alloc (Nat.le_refl _) _).trans (hb.mono (by simp))⟩
  rw[hb.cell (p:=⟨w.heap.size,0,none⟩) (by simp),aB];rfl
 have hn2:=h.n2
 clear h
 go_enter Tryz.func96,Tryz.ntmps96
 go_wp2_with (go_at_call 137;refine(HH.out).mono ?_;rintro e w1 ⟨rfl,hb⟩;obtain⟨hr1,c1,hb1⟩:=HA.out _ hb;obtain⟨cp,c2⟩:=hr1.sl;have c3:=hr1.st x hx;have HB1:=aa hb1;clear hb hb1 hr1)
 go_quiet (fail)
 go_wp2
 go_ret2
 exact⟨rfl,below_drewN HB1.out _⟩
end
def Br (i j:Nat):Bool:=(i==1&&j==2)||(i==2&&(j==1||j==3||j==4))||((i==3||i==4)&&j==1)
def lA (a b:Int):Bool:=decide (0≤a)&&decide (a≤4)&&decide (0≤b)&&decide (b≤4)&&Br a.toNat b.toNat
def kH (w:World):Prop:= ∀i j,i<5→j<5→w.cell? ⟨0,i*5+j,none⟩=some (.bool (Br i j))
theorem kH.pos {w:World} (h:kH w):0<w.heap.size:=World.block_lt_of_cell? w _ (h 0 0 (by omega) (by omega))
theorem kH.frame {w w':World} {X:Nat→Prop} (h:kH w) (hf:Fr X w w') (h0: ¬X 0):kH w':=fun i j hi hj=>(hf.cell (a:=⟨0,i*5+j,none⟩) h.pos h0).trans (h i j hi hj)
theorem kH.below {w w':World} (h:kH w) (hf:Below w.heap.size w w'):kH w':=fun i j hi hj=>(hf.cell (p:=⟨0,i*5+j,none⟩) h.pos).trans (h i j hi hj)
theorem gv (a:Int) (w:World) (h:0≤a∧a≤4):
  Calls Tryz.prog 170 #[.int .i64 a] w fun e w'=>e= .returned (.bool true)∧w'=w:=by
 have h1:=h.1
 have h2:=h.2
 go_enter Tryz.func170,Tryz.ntmps170
 go_wp2
 all_goals go_ret
 all_goals exact⟨by simp,rfl⟩
theorem lN (a:Int) (w:World) (h: ¬(0≤a∧a≤4)):
  Calls Tryz.prog 170 #[.int .i64 a] w fun e w'=>e= .returned (.bool false)∧w'=w:=by
 by_cases h0:0≤a
 ·have h1: ¬a≤4:=by omega
  go_enter Tryz.func170,Tryz.ntmps170
  go_wp2
  all_goals go_ret
  all_goals exact⟨by simp,rfl⟩
 ·go_enter Tryz.func170,Tryz.ntmps170
  go_wp2
  all_goals go_ret
  all_goals exact⟨by simp,rfl⟩
theorem C6 (a b:Nat) (w:World) (h:kH w) (ha:a<5) (hb:b<5):
  Calls Tryz.prog 138 #[.int .i64 (a:Int),.int .i64 (b:Int)] w fun e w'=>e= .returned (.bool (Br a b))∧w'=w:=by
 have e0:=h a b ha hb
 have H1:=aa (gv (a:Int) w (by omega))
 have H2:=aa (gv (b:Int) w (by omega))
 generalize hf:Br a b=f at*
 clear h hf
 go_enter Tryz.func138,Tryz.ntmps138
 go_wp2_with (first
  |(go_at_call 170;refine(H1.out).mono ?_;rintro e w1 ⟨rfl,hw⟩;replace hw:=hw.symm;subst hw;clear H1)
  |(go_at_call 170;refine(H2.out).mono ?_;rintro e w1 ⟨rfl,hw⟩;replace hw:=hw.symm;subst hw;clear H2))
 go_ret
 exact⟨by simp,rfl⟩
theorem zU (a b:Int) (w:World) (h: ¬(0≤a∧a≤4∧0≤b∧b≤4)):
  Calls Tryz.prog 138 #[.int .i64 a,.int .i64 b] w fun e w'=>e= .returned (.bool false)∧w'=w:=by
 by_cases ha:0≤a∧a≤4
 ·have H1:=aa (gv a w ha)
  have H2:=aa (lN b w (by omega))
  clear h ha
  go_enter Tryz.func138,Tryz.ntmps138
  go_wp2_with (first
   |(go_at_call 170;refine(H1.out).mono ?_;rintro e w1 ⟨rfl,hw⟩;replace hw:=hw.symm;subst hw;clear H1)
   |(go_at_call 170;refine(H2.out).mono ?_;rintro e w1 ⟨rfl,hw⟩;replace hw:=hw.symm;subst hw;clear H2))
  go_ret
  exact⟨by simp,rfl⟩
 ·have H1:=aa (lN a w ha)
  clear h ha
  go_enter Tryz.func138,Tryz.ntmps138
  go_wp2_with (first
   |(go_at_call 170;refine(H1.out).mono ?_;rintro e w1 ⟨rfl,hw⟩;replace hw:=hw.symm;subst hw;clear H1))
  go_ret
  exact⟨by simp,rfl⟩
theorem gA (a b:Int) (w:World) (h:kH w):
  Calls Tryz.prog 138 #[.int .i64 a,.int .i64 b] w fun e w'=>e= .returned (.bool (lA a b))∧w'=w:=by
 by_cases hh:0≤a∧a≤4∧0≤b∧b≤4
 ·obtain⟨x,rfl⟩:=Int.eq_ofNat_of_zero_le hh.1
  obtain⟨y,rfl⟩:=Int.eq_ofNat_of_zero_le hh.2.2.1
  refine(C6 x y w h (by omega) (by omega)).mono ?_
  rintro e w' ⟨rfl,rfl⟩
  refine⟨?_,rfl⟩
  unfold lA
  rw[decide_eq_true hh.1,decide_eq_true hh.2.1,decide_eq_true hh.2.2.1,decide_eq_true hh.2.2.2]
  simp
 ·refine(zU a b w hh).mono ?_
  rintro e w' ⟨rfl,rfl⟩
  refine⟨?_,rfl⟩
  have:lA a b=false:=by
   unfold lA
   by_cases h1:0≤a<;>by_cases h2:a≤4<;>by_cases h3:0≤b<;>by_cases h4:b≤4<;>simp[h1,h2,h3,h4]
   exact absurd ⟨h1,h2,h3,h4⟩ hh
  rw[this]
section
variable {w:World} {b g n:Nat} {G S:Nat→Nat}
theorem uM (h:aE w b g n G S) (p s:Int) (q:Nat) (hh:hasB n G S p q=false):
  Calls Tryz.prog 89 #[.pointer (some ⟨b,0,none⟩),.agg #[.int .i64 p,.int .u32 (q:Int)],.int .i64 s] w fun e w'=>e= .returned (.int .i64 6)∧Below w.heap.size w w':=by
 have HH:=aa (dy (h.alloc (.cells #[.int .i64 p,.int .u32 (q:Int)] 51)) p q)
 rw[hh] at HH
 clear h
 go_enter Tryz.func89,Tryz.ntmps89
 go_wp2_with (go_at_call 137;refine(HH.out).mono ?_;rintro e w1 ⟨rfl,hb⟩;have HB:=aa hb;clear hb)
 go_ret
 exact⟨rfl,((Below.refl _ _).alloc (Nat.le_refl _) _).trans (HB.out.mono (by simp))⟩
theorem ru (h:aE w b g n G S) (ht:kH w) (x q:Nat) (s:Int) (hx:x<n) (hs:S x≠0) (hg:G x=q) (hm:lA (S x) s=false):
  Calls Tryz.prog 89 #[.pointer (some ⟨b,0,none⟩),.agg #[.int .i64 (x:Int),.int .u32 (q:Int)],.int .i64 s] w fun e w'=>e= .returned (.int .i64 11)∧Below w.heap.size w w':=by
 have HH:=aa (dy (h.alloc (.cells #[.int .i64 (x:Int),.int .u32 (q:Int)] 51)) x q)
 rw[oM hx hs hg] at HH
 have HA:Hid (∀w1,Below (w.alloc (.cells #[.int .i64 (x:Int),.int .u32 (q:Int)] 51)).heap.size (w.alloc (.cells #[.int .i64 (x:Int),.int .u32 (q:Int)] 51)) w1→
   (aE w1 b g n G S∧w1.cell? ⟨w.heap.size,0,none⟩=some (.int .i64 (x:Int))∧Below w.heap.size w w1∧kH w1)):=by
  intro w1 hb
  have hbb:=((Below.refl _ _).alloc (Nat.le_refl _) _).trans (hb.mono (by simp))
  refine⟨(h.alloc _).below hb,?_,hbb,ht.below hbb⟩
  rw[hb.cell (p:=⟨w.heap.size,0,none⟩) (by simp),aB];rfl
 have hn2:=h.n2
 have HM:Hid (∀w1,kH w1→Calls Tryz.prog 138 #[.int .i64 (S x:Int),.int .i64 s] w1 fun e w'=>e= .returned (.bool false)∧w'=w1):=fun w1 ht1=>by
  rw[←hm];exact gA _ _ _ ht1
 clear h ht
 go_enter Tryz.func89,Tryz.ntmps89
 go_wp2_with (go_at_call 137;refine(HH.out).mono ?_;rintro e w1 ⟨rfl,hb⟩;obtain⟨hr1,c1,hb1,ht1⟩:=HA.out _ hb;obtain⟨cp,c2⟩:=hr1.sl;have c3:=hr1.st x hx;have HB1:=aa hb1;have HT1:=aa ht1;clear hb hb1 hr1 ht1)
 go_quiet (first|(go_at_call 138;refine Calls.quiet_of_same (HM.out _ ?_);exact(fun i j hi hj=>HT1.out i j hi hj)))
 go_wp2
 go_ret
 exact⟨rfl,below_drewN HB1.out _⟩
theorem uC (h:aE w b g n G S) (ht:kH w) (x q:Nat) (s:Nat) (hx:x<n) (hs:S x≠0) (hg:G x=q) (hm:lA (S x) s=true):
  Calls Tryz.prog 89 #[.pointer (some ⟨b,0,none⟩),.agg #[.int .i64 (x:Int),.int .u32 (q:Int)],.int .i64 (s:Int)] w fun e w'=>e= .returned (.int .i64 0)∧aE w' b g n G (aw S x s)∧Fr (fun k=>k=g) w w':=by
 have HH:=aa (dy (h.alloc (.cells #[.int .i64 (x:Int),.int .u32 (q:Int)] 51)) x q)
 rw[oM hx hs hg] at HH
 have HA:Hid (∀w1,Below (w.alloc (.cells #[.int .i64 (x:Int),.int .u32 (q:Int)] 51)).heap.size (w.alloc (.cells #[.int .i64 (x:Int),.int .u32 (q:Int)] 51)) w1→
   (aE w1 b g n G S∧w1.cell? ⟨w.heap.size,0,none⟩=some (.int .i64 (x:Int))∧Below w.heap.size w w1∧kH w1)):=by
  intro w1 hb
  have hbb:=((Below.refl _ _).alloc (Nat.le_refl _) _).trans (hb.mono (by simp))
  refine⟨(h.alloc _).below hb,?_,hbb,ht.below hbb⟩
  rw[hb.cell (p:=⟨w.heap.size,0,none⟩) (by simp),aB];rfl
 have hn2:=h.n2
 have HM:Hid (∀w1,kH w1→Calls Tryz.prog 138 #[.int .i64 (S x:Int),.int .i64 (s:Int)] w1 fun e w'=>e= .returned (.bool true)∧w'=w1):=fun w1 ht1=>by
  rw[←hm];exact gA _ _ _ ht1
 clear h ht
 go_enter Tryz.func89,Tryz.ntmps89
 go_wp2_with (go_at_call 137;refine(HH.out).mono ?_;rintro e w1 ⟨rfl,hb⟩;obtain⟨hr1,c1,hb1,ht1⟩:=HA.out _ hb;obtain⟨cp,c2⟩:=hr1.sl;have c3:=hr1.st x hx;have c4:=hr1.fg;have HR1:=aa hr1;have HB1:=aa hb1;have HT1:=aa ht1;clear hb hb1 hr1 ht1)
 go_quiet (first|(go_at_call 138;refine Calls.quiet_of_same (HM.out _ ?_);exact(fun i j hi hj=>HT1.out i j hi hj)))
 go_wp2
 go_region
 all_goals go_wp2
 go_ret
 exact⟨rfl,(HR1.out.xF x hx s).eI rfl,by
  have:=((Fr.aC HB1.out).setCell (S:=fun k=>k=g) (a:=⟨g,x*2+1,none⟩) rfl (.int .i64 (s:Int)))
  exact⟨this.os,this.tape,this.output,this.size,this.block⟩⟩
end
end Go.Proofs.YtjlbmmiomfpgiaaGreatDoor.Gt
namespace Go.Proofs.YtjlbmmiomfpgiaaGreatDoor.Gt
open Go.RowKit Go.Shelf
attribute [local go_sem] Oper.semAt_some
def bN (ops:Array Oper):Bool:=ops.all fun o=>match o.op with
 | .defer _=>false
 |_=>true
theorem de {ops:Array Oper} (h:bN ops=true) {i:Nat} {o:Oper} (ho:ops[i]? =some o): ∀c,o.op≠ .defer c:=by
 intro c e
 unfold bN at h
 rw[Array.all_eq_true'] at h
 have:=h o (Array.mem_of_getElem? ho)
 rw[e] at this
 exact absurd this (by simp)
theorem dd {P:Program} {o:Oper} {a:Act} {w:World} {K:Act→World→Prop} {Q:Exit→Act→World→Prop} {l n:Nat} (hd: ∀c,o.op≠ .defer c) (h:o.wp P a w K Q):o.wpIn (Fence.wide.inRound l) n P a w K Q:=by
 refine⟨fun _ _=>trivial,?_⟩
 rw[Oper.semAt_eq _ _ _ hd]
 unfold Oper.wp at h
 revert h
 generalize (execOp a.eval o).run P w=r
 intro h
 match r,h with
 | .ok (.value _) _,h=>exact h
 | .ok .skip _,h=>exact h
 | .ok (.defer _) _,h=>exact h
 | .ok (.enter f args) w',h=>exact⟨fun q=>absurd q (by simp[Fence.inRound,Fence.wide]),CallsIn.inRound l (callsIn_wide.2 h)⟩
 | .ok (.row row args) w',h=>
  refine⟨fun q=>absurd q (by simp[Fence.inRound,Fence.wide]),fun c cs _=> ?_⟩
  obtain⟨v,w'',r1,s⟩:=h c cs
  exact⟨v,w'',r1,stepsIn_wide.2 s⟩
 | .halt (.panic _) _,h=>exact h
theorem aT {P:Program} {md:Region.Mode} {ops:Array Oper} {Q:Exit→Act→World→Prop} {l n:Nat} (hd:bN ops=true) (hlo: ¬LetsOut Q): ∀(fuel:Nat) (listed:Array Bool) (a:Act) (w:World),wpAny P md ops Q fuel listed a w→wpAnyIn (Fence.wide.inRound l) n P md ops Q fuel listed a w
 |0,_,_,_,h=>h
 |fuel+1,_,a,w,h=>⟨h.1,fun i hi=>by
  have h2:=h.2 i hi
  unfold wpOp at h2
  unfold wpOpIn
  cases ho:ops[i]? with
  |none=>rw[ho] at h2;exact aT hd hlo fuel _ _ _ h2
  |some o=>
   rw[ho] at h2
   dsimp only at h2⊢
   by_cases hw:Region.wanted o (yielded ops a.tmps)=true
   ·rw[if_pos hw] at h2⊢
    rcases h2 with h2|h2
    ·exact dd (de hd ho) (Oper.wp_mono (fun a w q=>aT hd hlo fuel _ a w q) h2)
    ·exact absurd h2.2 hlo
   ·rw[if_neg hw] at h2⊢
    exact⟨fun _ _=>trivial,aT hd hlo fuel _ _ _ h2⟩⟩
theorem aY {P:Program} {id:Nat} {ops:Array Oper} {Q:Exit→Act→World→Prop} {l n:Nat} {a:Act} {w:World} (S:World→Prop) (hm:P.follows .mixedOrders=true) (hd:bN ops=true) (hlo: ¬LetsOut Q) (hS:S w.drew)
  (h:S w.drew→wpAnyH P .any ops Q S ops.size (Array.replicate ops.size false) a w.drew):(Code.region id ops true).wpIn (Fence.wide.inRound l) n P Q a w:=
 wpIn_region_any hm (aT hd hlo _ _ _ _ (wpAny_of_held _ _ _ _ (h hS)))
def pl (S:Nat→Nat) (fr:Bool) (n:Nat):Nat→List (Fin n)
 |0=>[]
 |k+1=>if h:k<n then(if (S k==0)=fr then pl S fr n k++[⟨k,h⟩] else pl S fr n k) else pl S fr n k
theorem gI {S:Nat→Nat} {fr:Bool} {n k:Nat} (h:k<n) (hs:(S k==0)=fr):pl S fr n (k+1)=pl S fr n k++[⟨k,h⟩]:=by rw[pl,dif_pos h,if_pos hs]
theorem tu {S:Nat→Nat} {fr:Bool} {n k:Nat} (hs: ¬(S k==0)=fr):pl S fr n (k+1)=pl S fr n k:=by rw[pl];split<;>simp
theorem Cm (S:Nat→Nat) (fr:Bool) (n k:Nat):pl S fr n k<+:pl S fr n (k+1):=by
 rw[pl]
 split
 ·split
  ·exact List.prefix_append _ _
  ·exact List.prefix_refl _
 ·exact List.prefix_refl _
theorem pR (S:Nat→Nat) (fr:Bool) (n k:Nat): ∀d,pl S fr n k<+:pl S fr n (k+d)
 |0=>List.prefix_refl _
 |d+1=>(pR S fr n k d).trans (Cm S fr n (k+d))
theorem sC (S:Nat→Nat) (fr:Bool) (n:Nat): ∀k,(pl S fr n k).length≤k
 |0=>Nat.le_refl _
 |k+1=>by
  have:=sC S fr n k
  rw[pl]
  split
  ·split<;>simp<;>omega
  ·omega
def Kp (n0 B2:Nat) (fr:Bool) (A B:World):Prop:=Below n0 A B∧(Boxed A B2 4 (.bool fr)→Boxed B B2 4 (.bool fr))
structure Reads (W:World) (g n:Nat) (G S:Nat→Nat):Prop where
 gn: ∀x,x<n→W.cell? ⟨g,x*2,none⟩=some (.int .u32 (G x:Int))
 st: ∀x,x<n→W.cell? ⟨g,x*2+1,none⟩=some (.int .i64 (S x:Int))
theorem Reads.below {W W':World} {g n n0:Nat} {G S:Nat→Nat} (h:Reads W g n G S) (hb:Below n0 W W') (h2:g<n0):Reads W' g n G S:=
 ⟨fun x hx=>(hb.cell (p:=⟨g,x*2,none⟩) h2).trans (h.gn x hx),fun x hx=>(hb.cell (p:=⟨g,x*2+1,none⟩) h2).trans (h.st x hx)⟩
theorem aE.reads {w:World} {b g n:Nat} {G S:Nat→Nat} (h:aE w b g n G S):Reads w g n G S:=⟨h.gn,h.st⟩
theorem u6 (nn:Nat) (hn:1≤nn) (l B1 B2 n0 b g n cp:Nat) (G S:Nat→Nat) (fr:Bool) (J Jx:List (Fin n)→World→Prop)
  (hA: ∀pre W o,J pre W→J pre (World.alloc W o))
  (hY: ∀pre (x:Fin n) W,J pre W→pre.length<(pl S fr n n).length→YieldAt Fence.wide (nn-1) Tryz.prog l #[.int .i64 (x.val:Int)] W fun e W'=>
   (e= .returned (.bool true)∧J (pre++[x]) W'∧Kp n0 B2 fr W W')∨(e= .returned (.bool false)∧Jx (pre++[x]) W'))
  (W:World) (hb1:W.cell? ⟨B1,0,none⟩=some (.pointer (some ⟨b,0,none⟩))) (hb2:Boxed W B2 4 (.bool fr)) (hsl:W.cell? ⟨b,0,none⟩=some (.slice (some ⟨g,0,none⟩) n cp)) (hr:Reads W g n G S) (hn1:n≤1024) (hgn:g<n0) (hn0:n0≤W.heap.size) (h0:J [] W):
  CallsIn Fence.wide nn Tryz.prog 142 #[.func (.yield l) #[] #[],.pointer (some ⟨B1,0,none⟩),.pointer (some ⟨B2,0,none⟩)] W fun e W'=>(∃v,e= .returned v)∧
   ((∃ys,ys=pl S fr n n∧J ys W')∨(∃pre,pre<+:pl S fr n n∧Jx pre W')):=by
 have HB2:=aa hb2
 have HR:=aa hr
 have H0:=aa h0
 have HY:=aa hY
 have HA:=aa hA
 have HN0:=aa hn0
 clear hb2 hr h0 hY hA hn0
 refine callsIn_of_wp Tryz.func142 rfl trivial ?_ rfl
 simp only[Tryz.ntmps142,List.size_toArray,List.length_cons,List.length_nil,Nat.reduceAdd,Nat.reduceSub,Array.replicate_succ,Array.replicate_zero,List.push_toArray,List.append_toArray,List.nil_append,List.cons_append]
 gi_wp2
 gi_loopw [11] (fun p wr=> ∃k:Nat,k≤n∧p= .int .i64 (k:Int)∧Reads wr g n G S∧Boxed wr B2 4 (.bool fr)∧n0≤wr.heap.size∧J (pl S fr n k) wr) (fun p _=>n-(intOf p).toNat)
 case atStart=>exact⟨0,by omega,rfl,HR.out,HB2.out,HN0.out,H0.out⟩
 case round=>
  obtain⟨k,hk,rfl,hre,hbx,hsz,hJ⟩:=hrel
  by_cases hkn:k<n
  ·have e1:=hre.gn k hkn
   have e2:=hre.st k hkn
   have e3:=hbx.cell
   have hlt:=hbx.lt
   have y1: ¬B2=wr.heap.size:=by omega
   have y2: ¬g=wr.heap.size:=by omega
   have hJ1:=HA.out _ _ (.cells #[.int .u32 (G k:Int),.int .i64 (S k:Int)] 194) hJ
   have hbx1:=hbx.alloc (.cells #[.int .u32 (G k:Int),.int .i64 (S k:Int)] 194)
   have e4:=hbx1.cell
   have hre1:Reads (wr.alloc (.cells #[.int .u32 (G k:Int),.int .i64 (S k:Int)] 194)) g n G S:=hre.below ((Below.refl n0 _).alloc hsz _) hgn
   have hsz1:n0≤(wr.alloc (.cells #[.int .u32 (G k:Int),.int .i64 (S k:Int)] 194)).heap.size:=by simp;omega
   by_cases hp:(S k==0)=fr
   ·have hlen:(pl S fr n k).length<(pl S fr n n).length:=by
     have h1:=pR S fr n (k+1) (n-(k+1))
     rw[show k+1+(n-(k+1))=n by omega,gI hkn hp] at h1
     have:=h1.length_le
     simp at this
     omega
    obtain⟨fn,tmps,assign,body,hy,hR⟩:=HY.out _ ⟨k,hkn⟩ _ hJ1 hlen
    have HBx:=aa hbx1
    have HRe:=aa hre1
    have HS:=aa hsz1
    have HP:=aa hp
    clear hJ hJ1 hbx hbx1 hre hre1 hlen hsz hsz1 hlt
    dsimp only at hy
    cases fr
    ·have hz: ¬(S k:Int)=0:=by intro q;have:S k=0:=(by omega);rw[this] at hp;exact absurd hp (by decide)
     have hz2:((S k:Int)==0)=false:=by simpa using hz
     clear hp
     gi_wp2
     refine hR.mono ?_
     rintro e W3 (⟨rfl,hJ3,hk3⟩|⟨rfl,hJx3⟩)
     ·have hbx3:=hk3.2 HBx.out
      have re3:=HRe.out.below hk3.1 hgn
      have hs3:n0≤W3.heap.size:=Nat.le_trans HS.out hk3.1.size
      have HBx3:=aa hbx3
      have HRe3:=aa re3
      have HS3:=aa hs3
      have HJ3:=aa hJ3
      clear hbx3 re3 hJ3 hk3 hs3 hy hR HY
      gi_wp2
      go_roundw
      case rel=>exact⟨k+1,by omega,by go_num,HRe3.out,HBx3.out,HS3.out,by rw[gI hkn HP.out];exact HJ3.out⟩
      case measure=>simp[intOf];omega
     ·have HJx:=aa hJx3
      clear hJx3 hy hR HY
      gi_wp2
      refine bodyPost_ret (results_none rfl _ _ _) rfl ?_
      refine⟨⟨_,rfl⟩,.inr ⟨_,?_,HJx.out⟩⟩
      have h1:=pR S false n (k+1) (n-(k+1))
      rw[show k+1+(n-(k+1))=n by omega,gI hkn HP.out] at h1
      exact h1
    ·have hz:(S k:Int)=0:=by have:S k=0:=(by simpa using hp);omega
     rw[hz] at e2 e4 hy hR HBx HRe HS
     clear hp
     gi_wp2
     refine hR.mono ?_
     rintro e W3 (⟨rfl,hJ3,hk3⟩|⟨rfl,hJx3⟩)
     ·have hbx3:=hk3.2 HBx.out
      have re3:=HRe.out.below hk3.1 hgn
      have hs3:n0≤W3.heap.size:=Nat.le_trans HS.out hk3.1.size
      have HBx3:=aa hbx3
      have HRe3:=aa re3
      have HS3:=aa hs3
      have HJ3:=aa hJ3
      clear hbx3 re3 hJ3 hk3 hs3 hy hR HY
      gi_wp2
      go_roundw
      case rel=>exact⟨k+1,by omega,by go_num,HRe3.out,HBx3.out,HS3.out,by rw[gI hkn HP.out];exact HJ3.out⟩
      case measure=>simp[intOf];omega
     ·have HJx:=aa hJx3
      clear hJx3 hy hR HY
      gi_wp2
      refine bodyPost_ret (results_none rfl _ _ _) rfl ?_
      refine⟨⟨_,rfl⟩,.inr ⟨_,?_,HJx.out⟩⟩
      have h1:=pR S true n (k+1) (n-(k+1))
      rw[show k+1+(n-(k+1))=n by omega,gI hkn HP.out] at h1
      exact h1
   ·have HBx:=aa hbx1
    have HRe:=aa hre1
    have HS:=aa hsz1
    have HP:=aa hp
    have HJ1:=aa hJ1
    clear hJ hJ1 hbx hbx1 hre hre1 hsz hsz1 hlt
    cases fr
    ·have hz:(S k:Int)=0:=by have:S k=0:=(by simpa using hp);omega
     rw[hz] at e2 e4 HBx HRe HS HJ1
     clear hp HY
     gi_wp2
     refine⟨fun _ h=>(by cases h),?_⟩
     gi_wp2
     go_roundw
     case rel=>exact⟨k+1,by omega,by go_num,HRe.out,HBx.out,HS.out,by rw[tu HP.out];exact HJ1.out⟩
     case measure=>simp[intOf];omega
    ·have hz: ¬(S k:Int)=0:=by intro q;have:S k=0:=(by omega);rw[this] at hp;exact absurd rfl hp
     clear hp HY
     gi_wp2
     refine⟨fun _ h=>(by cases h),?_⟩
     gi_wp2
     go_roundw
     case rel=>exact⟨k+1,by omega,by go_num,HRe.out,HBx.out,HS.out,by rw[tu HP.out];exact HJ1.out⟩
     case measure=>simp[intOf];omega
  ·have hkn':k=n:=by omega
   subst hkn'
   have HJ:=aa hJ
   clear hre hbx hJ hsz HY
   gi_wp2
   go_end0
   exact⟨⟨_,rfl⟩,.inl ⟨_,rfl,HJ.out⟩⟩
theorem fX {P:Program} (w:World) {ops:Array Oper} {o:Oper} {a:Act} {K:Act→World→Prop} {Q:Exit→Act→World→Prop} {E:Prop} (hgd:o.guard=none) (s x:Operand) (t:TypeId)
  (ho:o.op= .call {callee:= .builtin .append,args:= #[s,x],argTypes:= #[t,t]})
  (base:Nat) (e:TypeId) (i:TypeInfo) (z:Value) (size bytes:Nat) (ht:P.underlying t=some (.slice e)) (hi:P.info? e=some i) (hz:i.zero=some z)
  (hsize:i.size=size) (hby:i.bytes=bytes) (hzs:z.cells.size=size) (hsz:0<size)
  (v:Value) (n:Nat) (xs:List Value) (hs:a.eval s=v) (hown:w.ownsRow base e size v n xs)
  (ad:Addr) (m c:Nat) (news:List Value) (hx:a.eval x= .slice (some ad) m c) (hl:news.length=m*size) (hnews: ∀j u,news[j]? =some u→w.cell? (ad.add j)=some u) (h1: ∀u∈news,u.oneCell'=true)
  (h63:n+m≤maxLen) (hbytes:(n+m)*bytes≤140737488355328) (hbase:base≤w.heap.size)
  (h: ∀v' w',w'.ownsRow base e size v' (n+m) (xs++news)→w.grownBy w' v.ownBlock→K (a.put o.dst v') w'):
  if Region.wanted o (yielded ops a.tmps)=true then Oper.wp P o a w K Q else E:=by
 have hw:Region.wanted o (yielded ops a.tmps)=true:=by simp[Region.wanted,hgd]
 rw[if_pos hw]
 exact wp_append_own w s x t ho base e i z size bytes ht hi hz hsize hby hzs hsz v n xs hs hown ad m c news hx hl hnews h1 h63 hbytes hbase fun v' w' h2 h3 _=>h v' w' h2 h3
theorem aG {w:World} {base:Nat} {e:TypeId} {size:Nat} {v:Value} {n:Nat} {xs:List Value} (h:w.ownsRow base e size v n xs): ∃a c,v= .slice a n c:=by
 rcases h.2 with ⟨e,e0⟩|⟨g,cap,cur,e,_⟩
 ·exact⟨none,0,by rw[e,e0]⟩
 ·exact⟨_,cap,e⟩
theorem gQ (nn b:Nat) (fr:Bool) (w:World):
  CallsIn Fence.wide nn Tryz.prog 95 #[.pointer (some ⟨b,0,none⟩),.bool fr] w fun e w'=>e= .returned (.func (.func 142) #[] #[.pointer (some ⟨w.heap.size,0,none⟩),.pointer (some ⟨w.heap.size+1,0,none⟩)])∧
   w'=(w.alloc (.cells #[.pointer (some ⟨b,0,none⟩)] 82)).alloc (.cells #[.bool fr] 4):=by
 refine callsIn_of_wp Tryz.func95 rfl trivial ?_ rfl
 simp only[Tryz.ntmps95,List.size_toArray,List.length_cons,List.length_nil,Nat.reduceAdd,Nat.reduceSub,Array.replicate_succ,Array.replicate_zero,List.push_toArray,List.append_toArray,List.nil_append,List.cons_append]
 gi_wp2
 go_ret
 exact⟨by simp,rfl⟩
theorem qA {n0 B2:Nat} {fr:Bool} {A B C:World} (h:Kp n0 B2 fr A B) (h':Kp n0 B2 fr B C):Kp n0 B2 fr A C:=⟨h.1.trans h'.1,fun q=>h'.2 (h.2 q)⟩
theorem xm {w:World} {n0 B2:Nat} {fr:Bool} (hn:n0≤w.heap.size) (W:World) (l:Nat) (o o':Obj) (hl:w.heap.size≤l) (ho:W.heap[l]? =some o) (hc:o.isCells=false) (hw:o.isWalk=false):Kp n0 B2 fr W (W.putObj l o'):=by
 refine⟨belowK_b hn W l o o' hl ho hc hw,fun q=>q.kept (grownBy_putObj' W l o') (fun e=> ?_)⟩
 cases e
 rw[show W.heap[B2]? =_ from q] at ho
 cases ho
 cases hc
theorem uZ {W w1:World} {n0 B B2 size:Nat} {fr:Bool} {t e:TypeId} {v v':Value} {k m:Nat} {xs ys:List Value} {tmp:Obj} (hte:4≠e) (hte':t≠e) (hv:Boxed W B t v) (hrow:W.ownsRow n0 e size v k xs) (hn0:n0≤W.heap.size) (hB:n0≤B) (hne:B2≠B)
  (hown':w1.ownsRow n0 e size v' m ys) (hgrow:(W.alloc tmp).grownBy w1 v.ownBlock):Kp n0 B2 fr W (w1.setCell ⟨B,0,none⟩ v'):=by
 refine⟨(hv.appended hte' hrow hn0 hB hown' hgrow).2.2.2.2,fun q=> ?_⟩
 have q1:=(q.alloc tmp).kept hgrow (q.not_row hte hrow)
 exact q1.kept (grownBy_setCell' w1 B v') (by simp[hne])
theorem ei (nn:Nat) (hn:1≤nn) (B1 B2 n0 b g n cp:Nat) (G S:Nat→Nat) (fr:Bool) (w:World) (hb1:Boxed w B1 82 (.pointer (some ⟨b,0,none⟩))) (hb2:Boxed w B2 4 (.bool fr)) (hsl:w.cell? ⟨b,0,none⟩=some (.slice (some ⟨g,0,none⟩) n cp)) (hr:Reads w g n G S) (hn1:n≤1024) (hbn:b<n0) (hgn:g<n0) (hn0:n0≤w.heap.size):
  SeqStopsK Fence.wide nn Tryz.prog 142 #[.pointer (some ⟨B1,0,none⟩),.pointer (some ⟨B2,0,none⟩)] (fun x:Fin n=> #[Value.int .i64 (x.val:Int)]) (Kp n0 B2 fr) (fun ys=>ys=pl S fr n n) (fun pre=>pre<+:pl S fr n n) (pl S fr n n).length w:=by
 intro l J Jx W hW hJ hJx hY h0
 exact u6 nn hn l B1 B2 n0 b g n cp G S fr J Jx (fun pre W o hh=>hJ pre W _ none hh (World.grownBy_alloc W o none) (fun r e=>by cases e)) hY W ((hW.cell (p:=⟨B1,0,none⟩) hb1.lt).trans hb1.cell) ((hW.block B2 hb2.lt).trans hb2) ((hW.cell (p:=⟨b,0,none⟩) (by simp;omega)).trans hsl) (hr.below (hW.mono hn0) hgn) hn1 hgn (Nat.le_trans hn0 hW.size) h0
def bX (G:Nat→Nat) {n:Nat} (l:List (Fin n)):List Value:=l.flatMap (fun x=>[Value.int .i64 (x.val:Int),.int .u32 (G x.val:Int)])
theorem pf (G:Nat→Nat) {n:Nat} (l:List (Fin n)) (x:Fin n):bX G (l++[x])=bX G l++[.int .i64 (x.val:Int),.int .u32 (G x.val:Int)]:=by unfold bX;simp
theorem Cf:(Tryz.prog.info? 51).map (fun i=>(i.zero,i.size,i.bytes))=some (some (.agg #[.int .i64 0,.int .u32 0]),2,16):=by kernel_rfl
theorem Ac (b g n:Nat) (G S:Nat→Nat) (w:World) (hq:aE w b g n G S):
  CallsIn Fence.wide 4 Tryz.prog 53 #[.pointer (some ⟨b,0,none⟩)] w fun e W'=> ∃v,e= .returned v∧W'.ownsRow w.heap.size 51 2 v (pl S false n n).length (bX G (pl S false n n))∧Below w.heap.size w W':=by
 have hlb:=hq.cY
 have hlg:=hq.dD
 have hn:=hq.n2
 obtain⟨cp,hsl⟩:=hq.sl
 have hlen:=sC S false n n
 have HQ:=aa hq
 clear hq
 obtain⟨i0,hi,hz0,hz1,hz2⟩:=info_parts Cf
 refine callsIn_of_wp_marks Tryz.func53 rfl trivial ?_ rfl
 simp only[Tryz.ntmps53,List.size_toArray,List.length_cons,List.length_nil,Nat.reduceAdd,Nat.reduceSub,Array.replicate_succ,Array.replicate_zero,List.push_toArray,List.append_toArray,List.nil_append,List.cons_append]
 gi_wp2_with (refine⟨trivial,?_⟩;gi_at_call 95;refine(gQ _ b false _).mono ?_;rintro e w' ⟨rfl,rfl⟩)
 have bT:=Boxed.new w 82 (.pointer (some ⟨b,0,none⟩))
 have bO:=Boxed.new (w.alloc (.cells #[.pointer (some ⟨b,0,none⟩)] 82)) 118 (.slice none 0 0)
 have b1:=Boxed.new ((w.alloc (.cells #[.pointer (some ⟨b,0,none⟩)] 82)).alloc (.cells #[.slice none 0 0] 118)) 82 (.pointer (some ⟨b,0,none⟩))
 have b2:=Boxed.new (((w.alloc (.cells #[.pointer (some ⟨b,0,none⟩)] 82)).alloc (.cells #[.slice none 0 0] 118)).alloc (.cells #[.pointer (some ⟨b,0,none⟩)] 82)) 4 (.bool false)
 have hB0:Below w.heap.size w ((((w.alloc (.cells #[.pointer (some ⟨b,0,none⟩)] 82)).alloc (.cells #[.slice none 0 0] 118)).alloc (.cells #[.pointer (some ⟨b,0,none⟩)] 82)).alloc (.cells #[.bool false] 4)):=((((Below.refl _ w).alloc (Nat.le_refl _) _).alloc (by simp) _).alloc (by simp;omega) _).alloc (by simp;omega) _
 simp only[World.size_alloc] at bO b1 b2⊢
 refine wpIn_rangeFunc_ownG rfl (by decide) (gf:=142) (lb:= #[.pointer (some ⟨w.heap.size+1+1,0,none⟩),.pointer (some ⟨w.heap.size+1+1+1,0,none⟩)]) rfl trivial (enters_of Tryz.func142 (by kernel_rfl) rfl)
  (ei 3 (by decide) (w.heap.size+1+1) (w.heap.size+1+1+1) w.heap.size b g n cp G S false _ (b1.alloc _) b2 ((hB0.cell (p:=⟨b,0,none⟩) hlb).trans hsl) (HQ.out.reads.below hB0 hlg) hn hlb hlg hB0.size) qA (xm hB0.size) (Below.refl _ _) (fun _=>rfl)
  (fun (pre:List (Fin n)) W=>((∃v,Boxed W (w.heap.size+1) 118 v∧W.ownsRow w.heap.size 51 2 v pre.length (bX G pre)∧True)∧Boxed W w.heap.size 82 (.pointer (some ⟨b,0,none⟩)))∧Below w.heap.size w W)
  (fun _ _ _=>False)
  (OwnFrom.and (OwnFrom.and (Own.from (holdsRow_own w.heap.size (w.heap.size+1) 118 51 2 (fun pre:List (Fin n)=>pre.length) (fun pre:List (Fin n)=>bX G pre) (fun _ _=>True)) _) (Own.from (boxed_own w.heap.size 82 (fun _:List (Fin n)=> .pointer (some ⟨b,0,none⟩))) _)) (ownFrom_below (Nat.le_refl _) hB0.size))
  (fun _ _ _ _ _ hs _ _=>hs)
  ⟨⟨⟨_,(bO.alloc _).alloc _,World.ownsRow_nil _ _ _ _,trivial⟩,((bT.alloc _).alloc _).alloc _⟩,hB0⟩
  (fun x=>{tmps:= #[.pointer (some ⟨b,0,none⟩),.pointer (some ⟨w.heap.size,0,none⟩),.slice none 0 0,.pointer (some ⟨w.heap.size+1,0,none⟩),.int .i64 (x.val:Int),.pointer (some ⟨b,0,none⟩),.bool false,.pointer (some ⟨b,0,none⟩),.func (.func 142) #[] #[.pointer (some ⟨w.heap.size+1+1,0,none⟩),.pointer (some ⟨w.heap.size+1+1+1,0,none⟩)],.int .i64 (x.val:Int),undef,undef,undef,undef,undef,undef,undef,undef,undef,undef,undef,undef,undef,undef],defers:=[]}) ?assign ?body ?done ?stop
 case assign=>
  intro l x W K hK
  gi_wp2
  exact hK
 case body=>
  rintro l pre x W ⟨⟨⟨v,hv,hrow,_⟩,hbt⟩,hB⟩ hlt
  obtain⟨a0,c0,rfl⟩:=aG hrow
  have hc:=hv.cell
  have hf:=hv.frozen
  have hct:=hbt.cell
  have hsz:=hB.size
  have hxn:=x.isLt
  have hsl1:=(hB.cell (p:=⟨b,0,none⟩) hlb).trans hsl
  have hg1:=(hB.cell (p:=⟨g,x.val*2,none⟩) hlg).trans (HQ.out.gn x.val hxn)
  have HU:=aa Tryz.underlying118
  have HL:Hid ((W.drew.alloc (.cells #[.int .i64 (x.val:Int),.int .u32 (G x.val:Int)] 51)).ownsRow w.heap.size 51 2 (.slice a0 pre.length c0) pre.length (bX G pre)):=by
   have:=hrow.alloc (.cells #[.int .i64 (x.val:Int),.int .u32 (G x.val:Int)] 51)
   exact this
  have HN:Hid (∀j u,[Value.int .i64 (x.val:Int),.int .u32 (G x.val:Int)][j]? =some u→(W.drew.alloc (.cells #[.int .i64 (x.val:Int),.int .u32 (G x.val:Int)] 51)).cell? ((⟨W.heap.size,0,none⟩:Addr).add j)=some u):=by
   intro j u hu
   have hadd:(⟨W.heap.size,0,none⟩:Addr).add j=⟨W.heap.size,j,none⟩:=by unfold Addr.add;split<;>simp_all
   rw[hadd]
   have:=aB W.drew #[.int .i64 (x.val:Int),.int .u32 (G x.val:Int)] 51 j
   rw[show W.drew.heap.size=W.heap.size from rfl] at this
   rw[this]
   simpa using hu
  have HF:Hid (∀(w1:World) (v':Value),w1.ownsRow w.heap.size 51 2 v' (pre.length+1) (bX G pre++[.int .i64 (x.val:Int),.int .u32 (G x.val:Int)])→(W.drew.alloc (.cells #[.int .i64 (x.val:Int),.int .u32 (G x.val:Int)] 51)).grownBy w1 (Value.ownBlock (.slice a0 pre.length c0))→
    w1.cell? ⟨w.heap.size+1,0,none⟩=some (.slice a0 pre.length c0)∧w1.frozen? ⟨w.heap.size+1,0,none⟩=false∧
    (w1.cell? ⟨w.heap.size,0,none⟩=some (.pointer (some ⟨b,0,none⟩))∧w1.cell? ⟨b,0,none⟩=some (.slice (some ⟨g,0,none⟩) n cp)∧w1.cell? ⟨g,x.val*2,none⟩=some (.int .u32 (G x.val:Int)))∧
    ((w1.setCell ⟨w.heap.size+1,0,none⟩ v').cell? ⟨w.heap.size,0,none⟩=some (.pointer (some ⟨b,0,none⟩))∧(w1.setCell ⟨w.heap.size+1,0,none⟩ v').cell? ⟨b,0,none⟩=some (.slice (some ⟨g,0,none⟩) n cp)∧(w1.setCell ⟨w.heap.size+1,0,none⟩ v').cell? ⟨g,x.val*2,none⟩=some (.int .u32 (G x.val:Int)))∧
    (KeepsFrom ((((w.alloc (.cells #[.pointer (some ⟨b,0,none⟩)] 82)).alloc (.cells #[.slice none 0 0] 118)).alloc (.cells #[.pointer (some ⟨b,0,none⟩)] 82)).alloc (.cells #[.bool false] 4)).heap.size W (w1.setCell ⟨w.heap.size+1,0,none⟩ v')∧Kp w.heap.size (w.heap.size+1+1+1) false W (w1.setCell ⟨w.heap.size+1,0,none⟩ v')∧
     ((∃v,Boxed (w1.setCell ⟨w.heap.size+1,0,none⟩ v') (w.heap.size+1) 118 v∧(w1.setCell ⟨w.heap.size+1,0,none⟩ v').ownsRow w.heap.size 51 2 v (pre++[x]).length (bX G (pre++[x]))∧True)∧Boxed (w1.setCell ⟨w.heap.size+1,0,none⟩ v') w.heap.size 82 (.pointer (some ⟨b,0,none⟩)))∧Below w.heap.size w (w1.setCell ⟨w.heap.size+1,0,none⟩ v'))):=by
   intro w1 v' ho hg
   have hgW:(W.alloc (.cells #[.int .i64 (x.val:Int),.int .u32 (G x.val:Int)] 51)).grownBy w1 (Value.ownBlock (.slice a0 pre.length c0)):=⟨hg.os,hg.tape,hg.output,hg.size,hg.block⟩
   obtain⟨hv1,hv2,hr2,hk2,hb2⟩:=hv.appended (by decide) hrow hsz (by omega) ho hgW
   have hkp:=uZ (B2:=w.heap.size+1+1+1) (fr:=false) (by decide) (by decide) hv hrow hsz (by omega) (by omega) ho hgW
   have hbt1:=(hbt.alloc (.cells #[.int .i64 (x.val:Int),.int .u32 (G x.val:Int)] 51)).kept hgW (hbt.not_row (by decide) hrow)
   have hbt2:Boxed (w1.setCell ⟨w.heap.size+1,0,none⟩ v') w.heap.size 82 (.pointer (some ⟨b,0,none⟩)):=hbt1.other (by omega) _
   have hbw:=hB.trans hb2
   have hw1:Below w.heap.size W w1:=by
    refine((Below.refl w.heap.size W).alloc hsz (.cells #[.int .i64 (x.val:Int),.int .u32 (G x.val:Int)] 51)).trans ⟨hgW.os,hgW.tape,hgW.output,hgW.size,fun k hk=>hgW.block k (Nat.lt_of_lt_of_le hk (by simp;omega)) (fun e=> ?_)⟩
    have:=(hrow.lt k e.symm).1
    omega
   have hbw1:=hB.trans hw1
   refine⟨hv1.cell,hv1.frozen,⟨hbt1.cell,(hbw1.cell (p:=⟨b,0,none⟩) hlb).trans hsl,(hbw1.cell (p:=⟨g,x.val*2,none⟩) hlg).trans (HQ.out.gn x.val hxn)⟩,⟨hbt2.cell,(hbw.cell (p:=⟨b,0,none⟩) hlb).trans hsl,(hbw.cell (p:=⟨g,x.val*2,none⟩) hlg).trans (HQ.out.gn x.val hxn)⟩,hk2.from _,hkp,⟨⟨_,hv2,by rw[pf];simpa using hr2,trivial⟩,hbt2⟩,hbw⟩
  have hple:pre.length<1024:=by omega
  have hcA:=(hv.alloc (.cells #[.int .i64 (x.val:Int),.int .u32 (G x.val:Int)] 51)).cell
  have yA: ¬w.heap.size+1=W.heap.size:=by have:=hv.lt;omega
  have HA:Hid ((W.alloc (.cells #[.int .i64 (x.val:Int),.int .u32 (G x.val:Int)] 51)).cell? ⟨w.heap.size,0,none⟩=some (.pointer (some ⟨b,0,none⟩))∧(W.alloc (.cells #[.int .i64 (x.val:Int),.int .u32 (G x.val:Int)] 51)).cell? ⟨b,0,none⟩=some (.slice (some ⟨g,0,none⟩) n cp)∧(W.alloc (.cells #[.int .i64 (x.val:Int),.int .u32 (G x.val:Int)] 51)).cell? ⟨g,x.val*2,none⟩=some (.int .u32 (G x.val:Int))):=
   ⟨(hbt.alloc _).cell,(World.cell?_alloc_lt _ _ _ (by simp;omega)).trans hsl1,(World.cell?_alloc_lt _ _ _ (by simp;omega)).trans hg1⟩
  clear hv hrow hbt hB
  gi_wp2
  refine aY (fun w'=>w'.cell? ⟨w.heap.size,0,none⟩=some (.pointer (some ⟨b,0,none⟩))∧w'.cell? ⟨b,0,none⟩=some (.slice (some ⟨g,0,none⟩) n cp)∧w'.cell? ⟨g,x.val*2,none⟩=some (.int .u32 (G x.val:Int))) (by kernel_rfl) (by kernel_rfl) (by rintro⟨a,w,h⟩;exact h) ⟨hct,hsl1,hg1⟩ (fun hHeld=> ?_)
  refine aH 1 (v:= ?_) rfl ?v1 ?_
  case v1=>(intro w hSw;(try dsimp only at hSw);go_simp;try with_reducible rfl)
  try simp only[aq]
  refine aH 2 (v:= ?_) rfl ?v2 ?_
  case v2=>(intro w hSw;(try dsimp only at hSw);go_simp;try with_reducible rfl)
  try simp only[aq]
  refine aH 3 (v:= ?_) rfl ?v3 ?_
  case v3=>(intro w hSw;(try dsimp only at hSw);go_simp;try with_reducible rfl)
  try simp only[aq]
  refine aH 4 (v:= ?_) rfl ?v4 ?_
  case v4=>(intro w hSw;(try dsimp only at hSw);go_simp;try with_reducible rfl)
  try simp only[aq]
  refine aH 5 (v:= ?_) rfl ?v5 ?_
  case v5=>(intro w hSw;(try dsimp only at hSw);go_simp;try with_reducible rfl)
  try simp only[aq]
  refine aH 6 (v:= ?_) rfl ?v6 ?_
  case v6=>(intro w hSw;(try dsimp only at hSw);go_simp;try with_reducible rfl)
  try simp only[aq]
  refine aH 7 (v:= ?_) rfl ?v7 ?_
  case v7=>(intro w hSw;(try dsimp only at hSw);go_simp;try with_reducible rfl)
  try simp only[aq]
  refine aH 8 (v:= ?_) rfl ?v8 ?_
  case v8=>(intro w hSw;(try dsimp only at hSw);go_simp;try with_reducible rfl)
  try simp only[aq]
  refine aH 9 (v:= ?_) rfl ?v9 ?_
  case v9=>(intro w hSw;(try dsimp only at hSw);go_simp;try with_reducible rfl)
  try simp only[aq]
  refine aH 10 (v:= ?_) rfl ?v10 ?_
  case v10=>(intro w hSw;(try dsimp only at hSw);go_simp;try with_reducible rfl)
  try simp only[aq]
  refine wpAnyH_ready (rs:=[0,11]) (by kernel_rfl) (by simp) ?_
  refine AllReadyH.cons rfl (fun K hK=> ?_) (AllReadyH.cons rfl (fun K hK=> ?_) AllReadyH.nil)
  ·skip
   go_simp
   refine hK.out _ _ ?_ (fun hHeld=> ?_)
   ·first|exact hHeld|exact HA.out
   clear hK K
   try simp only[aq]
   refine a8 11 rfl (fun K hK=> ?_)
   go_simp
   refine hK.out _ _ ?_ (fun hHeld=> ?_)
   ·first|exact hHeld|exact HA.out
   clear hK K
   try simp only[aq]
   refine a8 12 rfl (fun K hK=> ?_)
   refine fX _ (by rfl) _ _ _ (by rfl) w.heap.size 51 i0 (.agg #[.int .i64 0,.int .u32 0]) 2 16 HU.out hi hz0 hz1 hz2 rfl (by omega) _ _ _ (by rfl) HL.out ⟨W.heap.size,0,none⟩ 1 1 [.int .i64 (x.val:Int),.int .u32 (G x.val:Int)] (by rfl) rfl HN.out (by simp[Value.oneCell']) (by unfold maxLen;omega) (by omega) (by simp;omega) ?_
   intro v' w1 hown' hgrow'
   obtain⟨g',cap',rfl⟩:=ownsRow_succ hown'
   have HX:=aa (HF.out _ _ hown' hgrow')
   have hc1:=HX.out.1
   have hf1:=HX.out.2.1
   refine hK.out _ _ ?_ (fun hHeld=> ?_)
   ·exact HX.out.2.2.1
   clear hK K
   try simp only[aq]
   refine a8 13 rfl (fun K hK=> ?_)
   go_simp
   refine hK.out _ _ ?_ (fun hHeld=> ?_)
   ·exact HX.out.2.2.2.1
   clear hK K
   try simp only[aq]
   refine wpAnyH_done (by kernel_rfl) ?_ _
   gi_wp2
   exact HX.out.2.2.2.2
  ·skip
   go_simp
   refine hK.out _ _ ?_ (fun hHeld=> ?_)
   ·first|exact hHeld|exact HA.out
   clear hK K
   try simp only[aq]
   refine a8 0 rfl (fun K hK=> ?_)
   go_simp
   refine hK.out _ _ ?_ (fun hHeld=> ?_)
   ·first|exact hHeld|exact HA.out
   clear hK K
   try simp only[aq]
   refine a8 12 rfl (fun K hK=> ?_)
   refine fX _ (by rfl) _ _ _ (by rfl) w.heap.size 51 i0 (.agg #[.int .i64 0,.int .u32 0]) 2 16 HU.out hi hz0 hz1 hz2 rfl (by omega) _ _ _ (by rfl) HL.out ⟨W.heap.size,0,none⟩ 1 1 [.int .i64 (x.val:Int),.int .u32 (G x.val:Int)] (by rfl) rfl HN.out (by simp[Value.oneCell']) (by unfold maxLen;omega) (by omega) (by simp;omega) ?_
   intro v' w1 hown' hgrow'
   obtain⟨g',cap',rfl⟩:=ownsRow_succ hown'
   have HX:=aa (HF.out _ _ hown' hgrow')
   have hc1:=HX.out.1
   have hf1:=HX.out.2.1
   refine hK.out _ _ ?_ (fun hHeld=> ?_)
   ·exact HX.out.2.2.1
   clear hK K
   try simp only[aq]
   refine a8 13 rfl (fun K hK=> ?_)
   go_simp
   refine hK.out _ _ ?_ (fun hHeld=> ?_)
   ·exact HX.out.2.2.2.1
   clear hK K
   try simp only[aq]
   refine wpAnyH_done (by kernel_rfl) ?_ _
   gi_wp2
   exact HX.out.2.2.2.2
 case done=>
  rintro D ys W hD rfl ⟨⟨⟨v,hv,hrow,_⟩,hbt⟩,hB⟩ hK
  have hc:=hv.cell
  gi_wp2
  refine⟨by simp,.inl ⟨_,_,rfl,run_takeDeferred hK,?_⟩⟩
  exact⟨_,results_tmp rfl _ _ _,v,rfl,ownsRow_putObj hrow _ hK rfl,hB.trans (belowK_b (w:=w) (Nat.le_refl _) W D _ _ (by simp at hD;omega) hK rfl rfl)⟩
 case stop=>
  rintro D c pre W _ _ h _
  exact h.elim
theorem zs {w:World} {b g n:Nat} {G S:Nat→Nat} (hq:aE w b g n G S):
  Calls Tryz.prog 53 #[.pointer (some ⟨b,0,none⟩)] w fun e W'=> ∃v,e= .returned v∧W'.ownsRow w.heap.size 51 2 v (pl S false n n).length (bX G (pl S false n n))∧Below w.heap.size w W':=
 callsIn_wide.1 (Ac b g n G S w hq)
theorem pX {β:Type} {B b g n:Nat} (G S:β→Nat→Nat) (hb:b<B) (hg:g<B):OwnFrom B (fun s W=>aE W b g n (G s) (S s)):=fun s W W' row hs hgr hr=>
 hs.kept (hgr.block b hs.cY (fun e=>by have:=(hr b e.symm).1;omega)) (hgr.block g hs.dD (fun e=>by have:=(hr g e.symm).1;omega))
theorem sg {β:Type} {B:Nat} {X:Nat→Prop} {w:World} (hB:w.heap.size≤B):OwnFrom B (fun (_:β) W=>Fr X w W):=fun _ W W' row hs hgr hr=>
 ⟨hgr.os.trans hs.os,hgr.tape.trans hs.tape,hgr.output.trans hs.output,Nat.le_trans hs.size hgr.size,fun k hk hn=>(hgr.block k (Nat.lt_of_lt_of_le hk hs.size) (fun e=>by have:=(hr k e.symm).1;omega)).trans (hs.block k hk hn)⟩
theorem ml {X:Nat→Prop} {w W:World} {D:Nat} (o':Obj) (h:Fr X w W) (hD:w.heap.size≤D):Fr X w (W.putObj D o'):=by
 have hg:=grownBy_putObj' W D o'
 exact⟨hg.os.trans h.os,hg.tape.trans h.tape,hg.output.trans h.output,Nat.le_trans h.size hg.size,fun k hk hn=>(hg.block k (Nat.lt_of_lt_of_le hk h.size) (fun e=>by cases e;omega)).trans (h.block k hk hn)⟩
theorem Bb {W:World} {b g n D:Nat} {G S:Nat→Nat} (o':Obj) (h:aE W b g n G S) (hb:b≠D) (hg:g≠D):aE (W.putObj D o') b g n G S:=by
 have hgr:=grownBy_putObj' W D o'
 exact h.kept (hgr.block b h.cY (fun e=>by cases e;exact hb rfl)) (hgr.block g h.dD (fun e=>by cases e;exact hg rfl))
structure vR (W:World) (s:Nat) (p q e:Int):Prop where
 c0:W.cell? ⟨s+1,0,none⟩=some (.int .i64 p)
 c1:W.cell? ⟨s+1,1,none⟩=some (.int .u32 q)
 c2:W.cell? ⟨s+1+1,0,none⟩=some (.int .i64 e)
 f0:W.frozen? ⟨s+1,0,none⟩=false
 f1:W.frozen? ⟨s+1,1,none⟩=false
 f2:W.frozen? ⟨s+1+1,0,none⟩=false
theorem vR.kept {W W':World} {row:Option Nat} {s:Nat} {p q e:Int} (h:vR W s p q e) (hg:W.grownBy W' row) (hr: ∀r,row=some r→ ∃o:Obj,W.heap[r]? =some o∧o.isCells=false):vR W' s p q e:=
 ⟨cell_kept h.c0 hg hr,cell_kept h.c1 hg hr,cell_kept h.c2 hg hr,(frozen_kept h.c0 hg hr).trans h.f0,(frozen_kept h.c1 hg hr).trans h.f1,(frozen_kept h.c2 hg hr).trans h.f2⟩
theorem vR.fu {W:World} {s g o:Nat} {p q e:Int} {v:Value} (h:vR W s p q e) (h1:g≠s+1) (h2:g≠s+1+1):vR (W.setCell ⟨g,o,none⟩ v) s p q e:=
 ⟨by rw[ab _ _ _ _ _ _ (by omega)];exact h.c0,by rw[ab _ _ _ _ _ _ (by omega)];exact h.c1,by rw[ab _ _ _ _ _ _ (by omega)];exact h.c2,by rw[World.frozen?_setCell];exact h.f0,by rw[World.frozen?_setCell];exact h.f1,by rw[World.frozen?_setCell];exact h.f2⟩
theorem vR.store {W:World} {s:Nat} {p q e:Int} (h:vR W s p q e) (p' q' e':Int):vR (((W.setCell ⟨s+1,0,none⟩ (.int .i64 p')).setCell ⟨s+1,1,none⟩ (.int .u32 q')).setCell ⟨s+1+1,0,none⟩ (.int .i64 e')) s p' q' e':=by
 refine⟨?_,?_,?_,?_,?_,?_⟩
 ·rw[ab _ _ _ _ _ _ (by omega),ab _ _ _ _ _ _ (by omega)];exact au _ _ _ _ h.c0
 ·rw[ab _ _ _ _ _ _ (by omega)];exact au _ _ _ _ (by rw[ab _ _ _ _ _ _ (by omega)];exact h.c1)
 ·exact au _ _ _ _ (by rw[ab _ _ _ _ _ _ (by omega),ab _ _ _ _ _ _ (by omega)];exact h.c2)
 ·rw[World.frozen?_setCell,World.frozen?_setCell,World.frozen?_setCell];exact h.f0
 ·rw[World.frozen?_setCell,World.frozen?_setCell,World.frozen?_setCell];exact h.f1
 ·rw[World.frozen?_setCell,World.frozen?_setCell,World.frozen?_setCell];exact h.f2
theorem Fr.rW {X:Nat→Prop} {w w':World} (h:Fr X w w') {a:Addr} (ha:w.heap.size≤a.block) (u:Value):Fr X w (w'.setCell a u):=
 ⟨h.os,h.tape,h.output,by simpa using h.size,fun k hk hn=>(Below.heap_setCell _ _ _ _ (by omega)).trans (h.block k hk hn)⟩
theorem aE.fu {W:World} {b g n o k:Nat} {G S:Nat→Nat} {v:Value} (h:aE W b g n G S) (h1:b≠k) (h2:g≠k):aE (W.setCell ⟨k,o,none⟩ v) b g n G S:=
 h.kept (Below.heap_setCell _ _ _ _ (by simpa using h1)) (Below.heap_setCell _ _ _ _ (by simpa using h2))
theorem vY (b g n:Nat) (G S:Nat→Nat) (w:World) (hq:aE w b g n G S) (hG: ∀x,x<n→G x+1<4294967296):
  CallsIn Fence.wide 4 Tryz.prog 94 #[.pointer (some ⟨b,0,none⟩)] w fun e W'=>
   (∃x:Fin n,[x]<+:pl S true n n∧e= .returned (.tuple #[.agg #[.int .i64 (x.val:Int),.int .u32 ((G x.val+1:Nat):Int)],.int .i64 0])∧aE W' b g n (aw G x.val (G x.val+1)) (aw S x.val 1)∧Fr (fun k=>k=g) w W')∨
   (pl S true n n=[]∧e= .returned (.tuple #[.agg #[.int .i64 0,.int .u32 0],.int .i64 4])∧Below w.heap.size w W'):=by
 have hlb:=hq.cY
 have hlg:=hq.dD
 have hn:=hq.n2
 obtain⟨cp,hsl⟩:=hq.sl
 have HQ:=aa hq
 have HG:=aa hG
 clear hq hG
 refine callsIn_of_wp_marks Tryz.func94 rfl trivial ?_ rfl
 simp only[Tryz.ntmps94,List.size_toArray,List.length_cons,List.length_nil,Nat.reduceAdd,Nat.reduceSub,Array.replicate_succ,Array.replicate_zero,List.push_toArray,List.append_toArray,List.nil_append,List.cons_append]
 gi_wp2_with (refine⟨trivial,?_⟩;gi_at_call 95;refine(gQ _ b true _).mono ?_;rintro e w' ⟨rfl,rfl⟩)
 have bT:=Boxed.new w 82 (.pointer (some ⟨b,0,none⟩))
 obtain⟨W0,hW0⟩: ∃W0,(((w.alloc (.cells #[.pointer (some ⟨b,0,none⟩)] 82)).alloc (.cells #[.int .i64 0,.int .u32 0] 51)).alloc (.cells #[.int .i64 0] 32))=W0:=⟨_,rfl⟩
 have hs0:W0.heap.size=w.heap.size+1+1+1:=by rw[←hW0];simp
 have hA0:vR W0 w.heap.size 0 0 0:=by
  rw[←hW0]
  have hw1:w.heap.size+1=(w.alloc (.cells #[.pointer (some ⟨b,0,none⟩)] 82)).heap.size:=by simp
  have hw2:w.heap.size+1+1=((w.alloc (.cells #[.pointer (some ⟨b,0,none⟩)] 82)).alloc (.cells #[.int .i64 0,.int .u32 0] 51)).heap.size:=by simp
  have hc: ∀k,(((w.alloc (.cells #[.pointer (some ⟨b,0,none⟩)] 82)).alloc (.cells #[.int .i64 0,.int .u32 0] 51)).alloc (.cells #[.int .i64 0] 32)).cell? ⟨w.heap.size+1,k,none⟩=(#[.int .i64 0,.int .u32 0]:Array Value)[k]? :=by
   intro k
   rw[World.cell?_alloc_lt _ _ _ (by simp),hw1,aB]
  have hf: ∀k,(((w.alloc (.cells #[.pointer (some ⟨b,0,none⟩)] 82)).alloc (.cells #[.int .i64 0,.int .u32 0] 51)).alloc (.cells #[.int .i64 0] 32)).frozen? ⟨w.heap.size+1,k,none⟩=false:=by
   intro k
   rw[show(((w.alloc (.cells #[.pointer (some ⟨b,0,none⟩)] 82)).alloc (.cells #[.int .i64 0,.int .u32 0] 51)).alloc (.cells #[.int .i64 0] 32)).frozen? ⟨w.heap.size+1,k,none⟩=((w.alloc (.cells #[.pointer (some ⟨b,0,none⟩)] 82)).alloc (.cells #[.int .i64 0,.int .u32 0] 51)).frozen? ⟨w.heap.size+1,k,none⟩ from World.frozen?_of_block (Below.heap_alloc _ _ _ (by simp)),hw1]
   exact aF _ _ _ _
  refine⟨by rw[hc];rfl,by rw[hc];rfl,by rw[hw2,aB];rfl,hf 0,hf 1,?_⟩
  rw[hw2];exact aF _ _ _ _
 have hT0:Boxed W0 w.heap.size 82 (.pointer (some ⟨b,0,none⟩)):=by rw[←hW0];exact(bT.alloc _).alloc _
 have hB00:Below w.heap.size w W0:=by rw[←hW0];exact(((Below.refl _ w).alloc (Nat.le_refl _) _).alloc (by simp) _).alloc (by simp;omega) _
 rw[hW0]
 have b1:=Boxed.new W0 82 (.pointer (some ⟨b,0,none⟩))
 have b2:=Boxed.new (W0.alloc (.cells #[.pointer (some ⟨b,0,none⟩)] 82)) 4 (.bool true)
 have hB0:Below w.heap.size w ((W0.alloc (.cells #[.pointer (some ⟨b,0,none⟩)] 82)).alloc (.cells #[.bool true] 4)):=(hB00.alloc (by omega) _).alloc (by simp;omega) _
 simp only[World.size_alloc,hs0] at b1 b2⊢
 refine wpIn_rangeFunc_ownG rfl (by decide) (gf:=142) (lb:= #[.pointer (some ⟨w.heap.size+1+1+1,0,none⟩),.pointer (some ⟨w.heap.size+1+1+1+1,0,none⟩)]) rfl trivial (enters_of Tryz.func142 (by kernel_rfl) rfl)
  (ei 3 (by decide) (w.heap.size+1+1+1) (w.heap.size+1+1+1+1) w.heap.size b g n cp G S true _ (b1.alloc _) b2 ((hB0.cell (p:=⟨b,0,none⟩) hlb).trans hsl) (HQ.out.reads.below hB0 hlg) hn hlb hlg hB0.size) qA (xm hB0.size) (Below.refl _ _) (fun _=>rfl)
  (fun (pre:List (Fin n)) W=>((pre=[]∧vR W w.heap.size 0 0 0)∧Boxed W w.heap.size 82 (.pointer (some ⟨b,0,none⟩)))∧Below w.heap.size w W)
  (fun c (pre:List (Fin n)) W=> ∃x:Fin n,(c= .ret∧pre=[x])∧vR W w.heap.size (x.val:Int) ((G x.val+1:Nat):Int) 0∧aE W b g n (aw G x.val (G x.val+1)) (aw S x.val 1)∧Fr (fun k=>k=g) w W)
  (OwnFrom.and (OwnFrom.and (fun _ _ _ _ hs hg hr=>⟨hs.1,hs.2.kept hg (fun r e=>(hr r e).2)⟩) (Own.from (boxed_own w.heap.size 82 (fun _:List (Fin n)=> .pointer (some ⟨b,0,none⟩))) _)) (ownFrom_below (Nat.le_refl _) hB0.size))
  (fun _ _ _ _ _ hs hg hr=>by
   obtain⟨x,h1,h2,h3,h4⟩:=hs
   exact⟨x,h1,h2.kept hg (fun r e=>(hr r e).2),pX (β:=Unit) (B:=((W0.alloc (.cells #[.pointer (some ⟨b,0,none⟩)] 82)).alloc (.cells #[.bool true] 4)).heap.size) (fun _=>aw G x.val (G x.val+1)) (fun _=>aw S x.val 1) (by simp;omega) (by simp;omega) () _ _ _ h3 hg hr,sg (β:=Unit) (X:=fun k=>k=g) (B:=((W0.alloc (.cells #[.pointer (some ⟨b,0,none⟩)] 82)).alloc (.cells #[.bool true] 4)).heap.size) (w:=w) hB0.size () _ _ _ h4 hg hr⟩)
  ⟨⟨⟨rfl,(hA0.kept (World.grownBy_alloc W0 _ none) (fun r e=>by cases e)).kept (World.grownBy_alloc _ _ none) (fun r e=>by cases e)⟩,(hT0.alloc _).alloc _⟩,hB0⟩
  (fun x=>{tmps:= #[.pointer (some ⟨b,0,none⟩),.pointer (some ⟨w.heap.size,0,none⟩),.pointer (some ⟨w.heap.size+1,0,none⟩),.pointer (some ⟨w.heap.size+1+1,0,none⟩),.int .i64 (x.val:Int),undef,.pointer (some ⟨b,0,none⟩),.bool false,undef,.pointer (some ⟨b,0,none⟩),.func (.func 142) #[] #[.pointer (some ⟨w.heap.size+1+1+1,0,none⟩),.pointer (some ⟨w.heap.size+1+1+1+1,0,none⟩)],.int .i64 (x.val:Int),undef,undef,undef,undef,undef,undef,undef,undef,undef,undef,undef,undef,undef,undef,undef,undef,undef,undef,undef,undef,undef],defers:=[]}) ?assign ?body ?done ?stop
 case assign=>
  intro l x W K hK
  gi_wp2
  exact hK
 case body=>
  rintro l pre x W ⟨⟨⟨hpre,hA⟩,hbt⟩,hB⟩ hlt
  subst hpre
  have hct:=hbt.cell
  have hxn:=x.isLt
  have hx1:=HG.out x.val hxn
  have hsl1:=(hB.cell (p:=⟨b,0,none⟩) hlb).trans hsl
  have hR:aE W b g n G S:=HQ.out.below hB
  have hg1:=hR.gn x.val hxn
  have hg2:=hR.st x.val hxn
  have hfg:=hR.fg
  have HA:=aa hA
  obtain⟨a0,a1,a2,a3,a4,a5⟩:=hA
  have yg1: ¬g=w.heap.size:=by omega
  have yg2: ¬g=w.heap.size+1:=by omega
  have yg3: ¬g=w.heap.size+1+1:=by omega
  have yb: ¬b=g:=hR.bg
  have HB:=aa hB
  have HRR:=aa hR
  clear hB hR hbt HG
  gi_wp2
  have e:((G x.val:Int)+1)=((G x.val+1:Nat):Int):=by omega
  rw[e]
  refine⟨(((((KeepsOthers.setCell _ _ _).trans (KeepsOthers.setCell _ _ _)).trans (KeepsOthers.setCell _ _ _)).trans (KeepsOthers.setCell _ _ _)).trans (KeepsOthers.setCell _ _ _)).from _,x,⟨rfl,rfl⟩,((HA.out.fu yg2 yg3).fu yg2 yg3).store _ _ _,?_,?_⟩
  ·exact(((((HRR.out.Ey x.val hxn _).xF x.val hxn 1).fu (by omega) (by omega)).fu (by omega) (by omega)).fu (by omega) (by omega))
  ·exact(((((Fr.aC (S:=fun k=>k=g) HB.out).setCell (a:=⟨g,x.val*2,none⟩) rfl _).setCell (a:=⟨g,x.val*2+1,none⟩) rfl _).rW (a:=⟨w.heap.size+1,0,none⟩) (by simp) _).rW (a:=⟨w.heap.size+1,1,none⟩) (by simp) _).rW (a:=⟨w.heap.size+1+1,0,none⟩) (by simp;omega) _
 case done=>
  rintro D ys W hD rfl ⟨⟨⟨hpre,hA⟩,hbt⟩,hB⟩ hK
  have HA:=aa hA
  obtain⟨a0,a1,a2,a3,a4,a5⟩:=hA
  have HP:=aa hpre
  clear hpre
  gi_wp2
  have hK1:=(((KeepsOthers.setCell W ⟨w.heap.size+1,0,none⟩ (.int .i64 0)).trans (KeepsOthers.setCell _ ⟨w.heap.size+1,1,none⟩ (.int .u32 0))).trans (KeepsOthers.setCell _ ⟨w.heap.size+1+1,0,none⟩ (.int .i64 4))).same D _ hK rfl
  refine⟨by simp,.inl ⟨_,_,rfl,run_takeDeferred hK1,?_⟩⟩
  have hA5:=(HA.out.store 0 0 4).kept (grownBy_putObj' _ D (.deferred none)) (fun r e=>by cases e;exact⟨_,hK1,rfl⟩)
  have d0:=hA5.c0
  have d1:=hA5.c1
  have d2:=hA5.c2
  refine⟨.tuple #[.agg #[.int .i64 0,.int .u32 0],.int .i64 4],?_,.inr ⟨HP.out,rfl,((((hB.setCell (p:=⟨w.heap.size+1,0,none⟩) (by simp) _).setCell (p:=⟨w.heap.size+1,1,none⟩) (by simp) _).setCell (p:=⟨w.heap.size+1+1,0,none⟩) (by simp;omega) _).trans (belowK_b (w:=w) (Nat.le_refl _) _ D _ _ (by simp at hD;omega) hK1 rfl rfl))⟩⟩
  simp[results,Tryz.f94,go_sem,d0,d1,d2]
 case stop=>
  rintro D c pre W hD hsp ⟨x,⟨rfl,rfl⟩,hA,hR,hF⟩ hK
  have hDw:w.heap.size+1+1+1≤D:=by simp at hD;omega
  gi_wp2
  refine⟨by simp,.inl ⟨_,_,rfl,run_takeDeferred hK,?_⟩⟩
  have hA5:=hA.kept (grownBy_putObj' _ D (.deferred none)) (fun r e=>by cases e;exact⟨_,hK,rfl⟩)
  have d0:=hA5.c0
  have d1:=hA5.c1
  have d2:=hA5.c2
  refine⟨.tuple #[.agg #[.int .i64 (x.val:Int),.int .u32 ((G x.val+1:Nat):Int)],.int .i64 0],?_,.inl ⟨x,hsp,rfl,Bb _ hR (by omega) (by omega),ml _ hF (by omega)⟩⟩
  simp[results,Tryz.f94,go_sem,d0,d1,d2]
end Go.Proofs.YtjlbmmiomfpgiaaGreatDoor.Gt
namespace Go.Proofs.YtjlbmmiomfpgiaaGreatDoor.Gt
open Go.RowKit Go.Lib Go.Deep Go.ChangeShapes Go.WideShapes
theorem DN : Tryz.prog.globalNamed "boatswain/gtab.follows" = some 0 := by kernel_rfl
theorem yo:(Tryz.prog.globals[0]?).map (·.type)=some 268:=by kernel_rfl
theorem cellsIn:Tryz.prog.cellsOf 267=5:=by kernel_rfl
theorem uz:Tryz.prog.cellsOf 4=1:=by kernel_rfl
theorem zA {H:Type}:(Rows.laid_boatswain_gtab_follows:DataW H)= .agg ((List.range 5).map fun i=> .agg ((List.range 5).map fun j=> .lit (.bool (Br i j)))):=rfl
theorem pU {W : World} (h : laidMetH Tryz.prog [("boatswain/gtab.follows", Rows.laid_boatswain_gtab_follows)] W) : kH W := by
 have h' : laidMet Tryz.prog [("boatswain/gtab.follows", Rows.laid_boatswain_gtab_follows)] W := h
 obtain⟨ps,⟨g',t',cs,fuel,p,q,hg',ht',hvar,hd,_,_⟩,_⟩:=h'
 obtain rfl:=Option.some.inj (DN.symm.trans hg')
 obtain rfl:=Option.some.inj (yo.symm.trans ht')
 obtain⟨xs,m,_,hx,_,hlen,hel⟩:=DataW.trod_array Tryz.underlying268 hd
 simp only[Prod.mk.injEq] at hx
 have hx1:=hx.1
 rw[zA] at hx1
 simp only[DataW.agg.injEq] at hx1
 intro i j hi hj
 obtain⟨xi,hxi⟩: ∃xi,xs[i]? =some xi:=⟨xs[i]'(by omega),List.getElem?_eq_getElem (by omega)⟩
 have e1:=hel i hi
 rw[hxi,cellsIn] at e1
 obtain⟨ys,m2,_,hy,_,hlen2,hel2⟩:=DataW.trod_array Tryz.underlying267 e1
 obtain⟨yj,hyj⟩: ∃yj,ys[j]? =some yj:=⟨ys[j]'(by omega),List.getElem?_eq_getElem (by omega)⟩
 have e2:=hel2 j hj
 rw[hyj,uz] at e2
 obtain⟨bb,hb,hyv⟩:=DataW.trod_bool Tryz.underlying4 e2
 have q1:(xs.map (·.1))[i]? =some xi.1:=by rw[List.getElem?_map,hxi];rfl
 rw[←hx1] at q1
 have q2:xi.1= .agg ((List.range 5).map fun j=> .lit (.bool (Br i j))):=by
  have:((List.range 5).map fun i=>(DataW.agg ((List.range 5).map fun j=> .lit (.bool (Br i j))):DataW Unit))[i]? =some (.agg ((List.range 5).map fun j=> .lit (.bool (Br i j)))):=by
   rw[List.getElem?_map,List.getElem?_range hi];rfl
  rw[this] at q1
  exact(Option.some.inj q1).symm
 rw[hy] at q2
 simp only[DataW.agg.injEq] at q2
 have q3:(ys.map (·.1))[j]? =some yj.1:=by rw[List.getElem?_map,hyj];rfl
 rw[q2,List.getElem?_map,List.getElem?_range hj,hyv] at q3
 simp only[Option.map_some,Option.some.injEq,DataW.lit.injEq,Lit.bool.injEq] at q3
 have hc:cs.toList[i*5+j]? =some (.bool bb):=by
  have:=congrArg (·[0]?) hb
  simp only[List.getElem?_take,List.getElem?_drop] at this
  simpa [hj] using this
 have:=World.var?_cell DN hvar (i*5+j)
 rw[this,q3,←hc]
 simp
section
variable {H:Type} {enc:TypeId×Value→H} {w:World} {base:Nat} {spare:Nat→Bool} {held:Bool}
end
end Go.Proofs.YtjlbmmiomfpgiaaGreatDoor.Gt

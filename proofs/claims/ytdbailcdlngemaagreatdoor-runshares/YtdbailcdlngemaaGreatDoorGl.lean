/- YtdbailcdlngemaaGreatDoorGl: of the texts C1 C2 C3 C4 C5 C6 C7 C8 C13 C14 C15 C16 T1 T2 T3 T4 T5 T6 T12 what is wanted. -/
import Derived.Test.YtdbailcdlngemaaGreatDoorG0
import Derived.Test.YtdbailcdlngemaaGreatDoorChecked
import Derived.WalkKit
import Derived.ProofKit
import Derived.Below
import Derived.Carry
import Derived.Laws.OwnMore
import Derived.Maps.AppendAt
import Derived.Deep.AppendLies
import Derived.Deep.RegionHeld3
import Derived.Lib.SmallJoins
import Derived.OneCell
import Derived.Lib.BitFns
import Derived.LoopIn
import Derived.LoopNIn
import Derived.OrdersHeld
import Derived.OrdersIn
import Derived.OwnWalkIn
import Derived.RangeFuncBound
import Derived.RangeFuncBox
import Derived.RangeFuncCalls
import Derived.RangeFuncLeaves
import Derived.RangeFuncNested
import Derived.Shelf.Abstract
import Derived.Shelf.RegionOpen
import Derived.TacticsInMore
import Derived.Test.YtdbailcdlngemaaGreatDoorRows
import Derived.WalkSpells
import Derived.WalkLawsBesides
import Derived.StillTactics
import Derived.RegionTactic
import Derived.RowKit3
import Derived.Laws.MakeOwn
import Derived.OwnWalk
import Derived.Deep.QuietTactic
import Derived.BigQuiet
import Derived.Deep.DrawnRows
import Derived.OpenShut
import Derived.Deep.Slices
import Derived.Deep.Strs
import Derived.ChangeOld
import Derived.ChangeSame
import Derived.Lib.LaidTab
set_option maxHeartbeats 16000000
set_option maxRecDepth 100000
set_option linter.unusedVariables false
set_option linter.unusedSimpArgs false
namespace Go.Proofs.YtdbailcdlngemaaGreatDoor.Cb
open Go.RowKit Go.Lib
theorem aa {p:Prop} (h:p):Hid p:=h
structure Fr (S:Nat→Prop) (w w':World):Prop where
 os:w'.os=w.os
 tape:w'.tape=w.tape
 output:w'.output=w.output
 size:w.heap.size≤w'.heap.size
 block: ∀k,k<w.heap.size→ ¬S k→w'.heap[k]? =w.heap[k]?
section
variable {S S':Nat→Prop} {w w' w'':World}
theorem Fr.setCell (h:Fr S w w') {a:Addr} (hb:S a.block) (u:Value):Fr S w (w'.setCell a u):=
 ⟨h.os,h.tape,h.output,by simpa using h.size,fun k hk hn=>(Below.heap_setCell _ _ _ _ (fun e=>hn (by rw[e];exact hb))).trans (h.block k hk hn)⟩
theorem Fr.aE (h:Below w.heap.size w w'):Fr S w w':=⟨h.os,h.tape,h.output,h.size,fun k hk _=>h.block k hk⟩
end
structure fU where
 b:Nat
 p:Nat
 l:Nat
 d:Nat
def fU.ok (x:fU):Prop:=1≤x.b∧x.b≤x.p∧232792560%x.p=0∧x.l≤x.b∧x.d<18446744073709551616
theorem fU.ok.le {x:fU} (h:x.ok):x.p≤232792560:=Nat.le_of_dvd (by decide) (Nat.dvd_of_mod_eq_zero h.2.2.1)
structure lX (P:Nat) (L:List fU):Prop where
 p1:1≤P
 p2:P≤64
 all: ∀x∈L,x.ok
 len:L.length≤32
def qN (a b:Nat):Nat:=if a+b≤18446744073709551615 then a+b else 18446744073709551615
def lr (x:fU) (now:Nat):fU:=⟨x.b,x.p,x.b,qN now x.p⟩
theorem aY {w:World} {base:Nat} {e:TypeId} {size g n cap:Nat} {xs:List Value} (h:w.ownsRow base e size (.slice (some ⟨g,0,none⟩) n cap) n xs) (k:Nat) (hk:k<n*size) (u:Value):
  (w.setCell ⟨g,k,none⟩ u).ownsRow base e size (.slice (some ⟨g,0,none⟩) n cap) n (xs.set k u):=by
 refine⟨by simpa using h.1,?_⟩
 rcases h.2 with ⟨e1,_⟩|⟨g',cap',cur,e1,h0,h1,h2,h3,h4,h5⟩
 ·simp at e1
 ·simp at e1
  obtain⟨rfl,rfl⟩:=e1
  refine .inr ⟨g,cap,cur.setIfInBounds k u,rfl,h0,?_,h2,h3,by simpa using h4,?_⟩
  ·exact Go.Joins.block_setCell h1 u
  ·rw[←h5]
   simp[List.take_set]
theorem dW {w:World} {base:Nat} {e:TypeId} {size g n cap:Nat} {xs:List Value} (h:w.ownsRow base e size (.slice (some ⟨g,0,none⟩) n cap) n xs) (k:Nat):w.frozen? ⟨g,k,none⟩=false:=by
 rcases h.2 with ⟨e1,_⟩|⟨g',cap',cur,e1,h0,h1,h2,h3,h4,h5⟩
 ·simp at e1
 ·simp at e1
  obtain⟨rfl,rfl⟩:=e1
  unfold World.frozen?
  simp[h1]
theorem bJ {w:World} {base:Nat} {e:TypeId} {size:Nat} {v:Value} {n:Nat} {xs:List Value} (h:w.ownsRow base e size v n xs) {w':World} (hh: ∀k,v.ownBlock=some k→w'.heap[k]? =w.heap[k]?):w'.ownsRow base e size v n xs:=by
 refine⟨h.1,?_⟩
 rcases h.2 with hn|⟨g,cap,cur,rfl,hb,hgg,rest⟩
 ·exact .inl hn
 ·exact .inr ⟨g,cap,cur,rfl,hb,(hh g rfl).trans hgg,rest⟩
theorem aq {w:World} {base:Nat} {e:TypeId} {size:Nat} {v:Value} {n:Nat} {xs:List Value} (h:w.ownsRow base e size v n xs) {k:Nat} (hk:v.ownBlock=some k):base≤k∧k<w.heap.size∧ ∃cur,w.heap[k]? =some (.cells cur e (0,0)):=by
 rcases h.2 with ⟨rfl,_⟩|⟨g,cap,cur,rfl,hb,hgg,rest⟩
 ·simp[Value.ownBlock] at hk
 ·simp[Value.ownBlock] at hk
  subst hk
  exact⟨hb,(Array.getElem?_eq_some_iff.1 hgg).1,cur,hgg⟩
def EG (x:fU):List Value:=[.int .u64 (x.b:Int),.int .u64 (x.p:Int),.int .u64 (x.l:Int),.int .u64 (x.d:Int)]
def aR (L:List fU):List Value:=L.flatMap EG
theorem fw (x:fU) (L:List fU):aR (x::L)=EG x++aR L:=rfl
theorem fh: ∀(L:List fU) (i:Nat) (x:fU),L[i]? =some x→(aR L)[i*4]? =some (.int .u64 (x.b:Int))∧(aR L)[i*4+1]? =some (.int .u64 (x.p:Int))∧(aR L)[i*4+2]? =some (.int .u64 (x.l:Int))∧(aR L)[i*4+3]? =some (.int .u64 (x.d:Int))
 |[],i,x,h=>by simp at h
 |y::L,0,x,h=>by
  simp at h
  subst h
  exact⟨rfl,rfl,rfl,rfl⟩
 |y::L,i+1,x,h=>by
  have:=fh L i x (by simpa using h)
  rw[fw,show(i+1)*4=i*4+4 by omega]
  exact this
theorem mK: ∀(L:List fU) (i:Nat) (x:fU),i<L.length→aR (L.set i x)=((((aR L).set (i*4) (.int .u64 (x.b:Int))).set (i*4+1) (.int .u64 (x.p:Int))).set (i*4+2) (.int .u64 (x.l:Int))).set (i*4+3) (.int .u64 (x.d:Int))
 |[],i,x,h=>by simp at h
 |y::L,0,x,h=>by simp[fw,EG]
 |y::L,i+1,x,h=>by
  have:=mK L i x (by simpa using h)
  rw[List.set_cons_succ,fw,this,fw,show(i+1)*4=i*4+4 by omega]
  rfl
structure fR (w:World) (base s P:Nat) (v:Value) (L:List fU):Prop where
 blk:w.heap[s]? =some (.cells #[.int .u64 (P:Int),v] 124 (0,0))
 own:w.ownsRow base 211 4 v L.length (aR L)
 bs:base≤w.heap.size
 f:lX P L
section
variable {w w':World} {base s P:Nat} {v:Value} {L:List fU}
theorem fR.lt (h:fR w base s P v L):s<w.heap.size:=(Array.getElem?_eq_some_iff.1 h.blk).1
theorem fR.ne (h:fR w base s P v L):v.ownBlock≠some s:=by
 intro q
 obtain⟨_,_,cur,e⟩:=aq h.own q
 rw[h.blk] at e
 simp at e
theorem fR.c1 (h:fR w base s P v L):w.cell? ⟨s,1,none⟩=some v:=by unfold World.cell?;simp[h.blk]
theorem fR.form (h:fR w base s P v L): ∃a cap,v= .slice a L.length cap∧L.length≤cap∧cap≤maxLen:=by
 rcases h.own.2 with ⟨e,e0⟩|⟨g,cap,cur,e,_,_,h1,h2,_⟩
 ·exact⟨none,0,by rw[e,e0],by omega,by simp[maxLen]⟩
 ·exact⟨_,cap,e,h1,h2⟩
theorem fR.cells (h:fR w base s P v L) (hL:0<L.length): ∃g cap,v= .slice (some ⟨g,0,none⟩) L.length cap∧L.length≤cap∧cap≤maxLen∧g<w.heap.size∧g≠s∧(∀k,w.frozen? ⟨g,k,none⟩=false)∧
  (∀j x,L[j]? =some x→w.cell? ⟨g,j*4,none⟩=some (.int .u64 (x.b:Int))∧w.cell? ⟨g,j*4+1,none⟩=some (.int .u64 (x.p:Int))∧w.cell? ⟨g,j*4+2,none⟩=some (.int .u64 (x.l:Int))∧w.cell? ⟨g,j*4+3,none⟩=some (.int .u64 (x.d:Int))):=by
 have hne:=h.ne
 rcases h.own.2 with ⟨e,e0⟩|⟨g,cap,cur,e,h0,hg,h1,h2,_⟩
 ·omega
 ·have hown:=h.own
  subst e
  refine⟨g,cap,rfl,h1,h2,(Array.getElem?_eq_some_iff.1 hg).1,fun q=>hne (by rw[q];rfl),dW hown,fun j x hj=> ?_⟩
  have hjl:j<L.length:=(List.getElem?_eq_some_iff.1 hj).1
  rw[hown.cellAt (j*4) (by omega),hown.cellAt (j*4+1) (by omega),hown.cellAt (j*4+2) (by omega),hown.cellAt (j*4+3) (by omega)]
  exact fh L j x hj
theorem fR.kept (h:fR w base s P v L) (h0:w.heap.size≤w'.heap.size) (h1:w'.heap[s]? =w.heap[s]?) (h2: ∀k,v.ownBlock=some k→w'.heap[k]? =w.heap[k]?):fR w' base s P v L:=
 ⟨h1.trans h.blk,bJ h.own h2,Nat.le_trans h.bs h0,h.f⟩
theorem fR.frame {S:Nat→Prop} (h:fR w base s P v L) (hf:Fr S w w') (h1: ¬S s) (h2: ∀k,v.ownBlock=some k→ ¬S k):fR w' base s P v L:=
 h.kept hf.size (hf.block s h.lt h1) (fun k hk=>hf.block k (aq h.own hk).2.1 (h2 k hk))
theorem fR.below (h:fR w base s P v L) (hf:Below w.heap.size w w'):fR w' base s P v L:=
 h.frame (Fr.aE (S:=fun _=>False) hf) id (fun _ _=>id)
end
section
variable {w w':World} {base s P:Nat} {v:Value} {L:List fU}
end
theorem fL (w:World) (P:Nat) (h1:1≤P) (h2:P≤64):Calls Tryz.prog 27 #[.int .i64 (P:Int)] w fun e w'=>e= .returned (.pointer (some ⟨w.heap.size,0,none⟩))∧w'=w.alloc (.cells #[.int .u64 (P:Int),.slice none 0 0] 124):=by
 have g1: ¬(P:Int)<1:=by omega
 have g2: ¬(64:Int)<(P:Int):=by omega
 have g3:(P:Int)%18446744073709551616=P:=by omega
 go_enter Tryz.func27,Tryz.ntmps27
 go_wp2
 go_ret
 exact⟨rfl,rfl⟩
theorem vh (w:World) (x:fU) (now:Nat):Calls Tryz.prog 165 #[.agg #[.int .u64 (x.b:Int),.int .u64 (x.p:Int),.int .u64 (x.l:Int),.int .u64 (x.d:Int)],.int .u64 (now:Int)] w fun e w'=>e= .returned (.bool (decide (x.d≤now)))∧ ∃c,w'=w.alloc (.cells c 211):=by
 go_enter Tryz.func165,Tryz.ntmps165
 go_wp2
 go_ret
 exact⟨by simp,_,rfl⟩
theorem D1 (a b:Nat) (w:World) (ha:a<18446744073709551616) (hb:b<18446744073709551616):
  Calls Tryz.prog 87 #[.int .u64 (a:Int),.int .u64 (b:Int)] w fun e w'=>e= .returned (.int .u64 (qN a b:Int))∧w'=w:=by
 unfold qN
 by_cases h:a+b≤18446744073709551615
 ·rw[if_pos h]
  have h': ¬(18446744073709551615:Int)-b<a:=by omega
  go_enter Tryz.func87,Tryz.ntmps87
  go_wp2
  go_ret
  exact⟨by simp,rfl⟩
 ·rw[if_neg h]
  have h':(18446744073709551615:Int)-b<a:=by omega
  go_enter Tryz.func87,Tryz.ntmps87
  go_wp2
  go_ret
  exact⟨rfl,rfl⟩
theorem xG (w:World) (x:fU) (now:Nat) (hx:x.ok) (hn:now<18446744073709551616):Calls Tryz.prog 130 #[.agg #[.int .u64 (x.b:Int),.int .u64 (x.p:Int),.int .u64 (x.l:Int),.int .u64 (x.d:Int)],.int .u64 (now:Int)] w fun e w'=>e= .returned (.agg #[.int .u64 ((lr x now).b:Int),.int .u64 ((lr x now).p:Int),.int .u64 ((lr x now).l:Int),.int .u64 ((lr x now).d:Int)])∧ ∃c c',w'=((w.alloc (.cells c 211)).alloc (.cells c' 211)).drew:=by
 have HA:=aa (fun w=>D1 now x.p w hn (by have:=hx.le;omega))
 go_enter Tryz.func130,Tryz.ntmps130
 go_wp2
 go_region_held3 (fun w'=>w'.cell? ⟨w.heap.size,0,none⟩=some (.int .u64 (x.b:Int))∧w'.cell? ⟨w.heap.size,1,none⟩=some (.int .u64 (x.p:Int)))
  (first|simp[go_sem]|simp[go_sem,World.cell?_alloc_past])
  (first|(go_at_call 87;refine(HA.out _).mono ?_;rintro e w1 ⟨rfl,rfl⟩))
 go_wp2
 simp[bodyPost,results,Tryz.results130,go_sem,lr]
 exact⟨_,_,rfl⟩
section
variable {w:World} {base s P:Nat} {v:Value} {L:List fU}
theorem fk (h:fR w base s P v L) (i:Int):Calls Tryz.prog 163 #[.pointer (some ⟨s,0,none⟩),.int .i64 i] w fun e w'=>e= .returned (.bool (decide (0≤i∧i<(L.length:Int))))∧w'=w:=by
 obtain⟨a,cap,rfl,_,_⟩:=h.form
 have c1:=h.c1
 clear h
 by_cases h0:0≤i
 ·go_enter Tryz.func163,Tryz.ntmps163
  go_wp2
  go_ret
  exact⟨by simp[h0],rfl⟩
 ·go_enter Tryz.func163,Tryz.ntmps163
  go_wp2
  go_ret
  exact⟨by simp;omega,rfl⟩
theorem sO (h:fR w base s P v L):Calls Tryz.prog 60 #[.pointer (some ⟨s,0,none⟩)] w fun e w'=>e= .returned (.int .i64 (L.length:Int))∧w'=w:=by
 obtain⟨a,cap,rfl,_,_⟩:=h.form
 have c1:=h.c1
 clear h
 go_enter Tryz.func60,Tryz.ntmps60
 go_wp2
 go_ret
 exact⟨rfl,rfl⟩
def lZ (L:List fU) (i:Int):fU:=if 0≤i∧i<(L.length:Int) then(L[i.toNat]?).getD ⟨0,0,0,0⟩ else⟨0,0,0,0⟩
theorem Dx (h:fR w base s P v L) (i:Int):Calls Tryz.prog 153 #[.pointer (some ⟨s,0,none⟩),.int .i64 i] w fun e w'=>e= .returned (.agg #[.int .u64 ((lZ L i).b:Int),.int .u64 ((lZ L i).p:Int),.int .u64 ((lZ L i).l:Int),.int .u64 ((lZ L i).d:Int)])∧ ∃c,w'=w.alloc (.cells c 211):=by
 unfold lZ
 by_cases hi:0≤i∧i<(L.length:Int)
 ·rw[if_pos hi]
  obtain⟨k,rfl⟩: ∃k:Nat,i=k:=⟨i.toNat,by omega⟩
  have hk:k<L.length:=by omega
  obtain⟨x,hx⟩: ∃x,L[k]? =some x:=⟨_,List.getElem?_eq_getElem hk⟩
  have HH:=aa (fun w' (hb:Below w.heap.size w w')=>fk (h.below hb) (k:Int))
  simp only[decide_eq_true hi] at HH
  obtain⟨g,cap,rfl,hc1,hc2,hg,hgs,_,hc⟩:=h.cells (by omega)
  obtain⟨y0,y1,y2,y3⟩:=hc k x hx
  have c1:=h.c1
  have hs:=h.lt
  simp only[Int.toNat_natCast,hx,Option.getD_some]
  clear h hc hi
  go_enter Tryz.func153,Tryz.ntmps153
  go_wp2_with (go_at_call 163;refine(HH.out _ ((Below.refl _ _).alloc (Nat.le_refl _) _)).mono ?_;rintro e w1 ⟨rfl,hw⟩;subst hw)
  simp[bodyPost,results,Tryz.results153,go_sem]
  exact⟨_,rfl⟩
 ·rw[if_neg hi]
  have HH:=aa (fun w' (hb:Below w.heap.size w w')=>fk (h.below hb) i)
  simp only[decide_eq_false hi] at HH
  clear h hi
  go_enter Tryz.func153,Tryz.ntmps153
  go_wp2_with (go_at_call 163;refine(HH.out _ ((Below.refl _ _).alloc (Nat.le_refl _) _)).mono ?_;rintro e w1 ⟨rfl,hw⟩;subst hw)
  simp[bodyPost,results,Tryz.results153,go_sem]
  exact⟨_,rfl⟩
end
@[go_sem] theorem uh (a b c d : Int) (w : World) : (Instr.field 211 (.agg #[.int .u64 a, .int .u64 b, .int .u64 c, .int .u64 d]) 1).run Tryz.prog w = .ok (.int .u64 c) w := by kernel_rfl
@[go_sem] theorem FB (a b c d : Int) (w : World) : (Instr.field 211 (.agg #[.int .u64 a, .int .u64 b, .int .u64 c, .int .u64 d]) 2).run Tryz.prog w = .ok (.int .u64 d) w := by kernel_rfl
section
variable {w:World} {base s P:Nat} {v:Value} {L:List fU}
theorem qp (h:fR w base s P v L) (i:Int):Calls Tryz.prog 115 #[.pointer (some ⟨s,0,none⟩),.int .i64 i] w fun e w'=>e= .returned (.int .u64 ((lZ L i).d:Int))∧ ∃c,w'=w.alloc (.cells c 211):=by
 have HA:=aa (Dx h i)
 clear h
 go_enter Tryz.func115,Tryz.ntmps115
 go_wp2_with (go_at_call 153;refine(HA.out).mono ?_;rintro e w1 ⟨rfl,c,rfl⟩)
 go_ret
 exact⟨rfl,_,rfl⟩
theorem wT (h:fR w base s P v L) (i:Int):Calls Tryz.prog 113 #[.pointer (some ⟨s,0,none⟩),.int .i64 i] w fun e w'=>e= .returned (.bool (decide (0<(lZ L i).l)))∧ ∃c,w'=w.alloc (.cells c 211):=by
 have HA:=aa (Dx h i)
 clear h
 go_enter Tryz.func113,Tryz.ntmps113
 go_wp2_with (go_at_call 153;refine(HA.out).mono ?_;rintro e w1 ⟨rfl,c,rfl⟩)
 go_ret
 exact⟨by simp,_,rfl⟩
theorem fR.put (h:fR w base s P v L) {g cap k:Nat} (hv:v= .slice (some ⟨g,0,none⟩) L.length cap) (hk:k<L.length) (x:fU) (hx:x.ok):
  fR ((((w.setCell ⟨g,k*4,none⟩ (.int .u64 (x.b:Int))).setCell ⟨g,k*4+1,none⟩ (.int .u64 (x.p:Int))).setCell ⟨g,k*4+2,none⟩ (.int .u64 (x.l:Int))).setCell ⟨g,k*4+3,none⟩ (.int .u64 (x.d:Int))) base s P v (L.set k x):=by
 have hne:=h.ne
 subst hv
 have hgs: ¬s=g:=fun q=>hne (by rw[q];rfl)
 have h1:=aY (aY (aY (aY h.own (k*4) (by omega) (.int .u64 (x.b:Int))) (k*4+1) (by omega) (.int .u64 (x.p:Int))) (k*4+2) (by omega) (.int .u64 (x.l:Int))) (k*4+3) (by omega) (.int .u64 (x.d:Int))
 rw[←mK L k x hk] at h1
 refine⟨?_,by simpa using h1,by simpa using h.bs,⟨h.f.p1,h.f.p2,?_,by simpa using h.f.len⟩⟩
 ·rw[Below.heap_setCell _ _ _ _ hgs,Below.heap_setCell _ _ _ _ hgs,Below.heap_setCell _ _ _ _ hgs,Below.heap_setCell _ _ _ _ hgs]
  exact h.blk
 ·intro y hy
  rcases List.mem_or_eq_of_mem_set hy with q|q
  ·exact h.f.all y q
  ·rw[q];exact hx
end
theorem Cs (a b:Nat):qN a b<18446744073709551616:=by unfold qN;split<;>omega
theorem BK {x:fU} (h:x.ok) (now:Nat):(lr x now).ok:=⟨h.1,h.2.1,h.2.2.1,Nat.le_refl _,Cs _ _⟩
theorem nj {S:Nat→Prop} {w w1:World} (hb:Below w.heap.size w w1) (g k0 k1 k2 k3:Nat) (u0 u1 u2 u3:Value) (hS:S g):Fr S w ((((w1.setCell ⟨g,k0,none⟩ u0).setCell ⟨g,k1,none⟩ u1).setCell ⟨g,k2,none⟩ u2).setCell ⟨g,k3,none⟩ u3):=
 ((((Fr.aE hb).setCell (a:=⟨g,k0,none⟩) hS _).setCell (a:=⟨g,k1,none⟩) hS _).setCell (a:=⟨g,k2,none⟩) hS _).setCell (a:=⟨g,k3,none⟩) hS _
section
variable {w:World} {base s P:Nat} {v:Value} {L:List fU}
theorem fR.one {g cap:Nat} (h:fR w base s P (.slice (some ⟨g,0,none⟩) L.length cap) L) {k:Nat} {x:fU} (hx:L[k]? =some x):
  w.cell? ⟨s,1,none⟩=some (.slice (some ⟨g,0,none⟩) L.length cap)∧w.cell? ⟨g,k*4,none⟩=some (.int .u64 (x.b:Int))∧w.cell? ⟨g,k*4+1,none⟩=some (.int .u64 (x.p:Int))∧w.cell? ⟨g,k*4+2,none⟩=some (.int .u64 (x.l:Int))∧w.cell? ⟨g,k*4+3,none⟩=some (.int .u64 (x.d:Int))∧
  w.frozen? ⟨g,k*4,none⟩=false∧w.frozen? ⟨g,k*4+1,none⟩=false∧w.frozen? ⟨g,k*4+2,none⟩=false∧w.frozen? ⟨g,k*4+3,none⟩=false:=by
 have hk:k<L.length:=(List.getElem?_eq_some_iff.1 hx).1
 obtain⟨g',cap',e,_,_,_,_,hf,hc⟩:=h.cells (by omega)
 simp at e
 obtain⟨rfl,rfl⟩:=e
 obtain⟨y0,y1,y2,y3⟩:=hc k x hx
 exact⟨h.c1,y0,y1,y2,y3,hf _,hf _,hf _,hf _⟩
theorem tq (h:fR w base s P v L) (i:Int) (now:Nat) (hi: ¬(0≤i∧i<(L.length:Int))):Calls Tryz.prog 131 #[.pointer (some ⟨s,0,none⟩),.int .i64 i,.int .u64 (now:Int)] w fun e w'=>e= .returned (.int .i64 2)∧w'=w:=by
 have HH:=aa (fk h i)
 rw[decide_eq_false hi] at HH
 clear h hi
 go_enter Tryz.func131,Tryz.ntmps131
 go_wp2_with (go_at_call 163;refine(HH.out).mono ?_;rintro e w1 ⟨rfl,hw⟩;subst hw)
 go_ret
 exact⟨rfl,rfl⟩
theorem Ac (h:fR w base s P v L) (k now:Nat) (x:fU) (hx:L[k]? =some x) (hd: ¬x.d≤now):Calls Tryz.prog 131 #[.pointer (some ⟨s,0,none⟩),.int .i64 (k:Int),.int .u64 (now:Int)] w fun e w'=>e= .returned (.int .i64 0)∧Below w.heap.size w w':=by
 have hk:k<L.length:=(List.getElem?_eq_some_iff.1 hx).1
 have HH:=aa (fk h k)
 rw[decide_eq_true (by omega)] at HH
 have HO:=aa (fun w=>vh w x now)
 simp only[decide_eq_false hd] at HO
 obtain⟨g,cap,rfl,hc1,hc2,hg,hgs,hfz,hc⟩:=h.cells (by omega)
 obtain⟨y0,y1,y2,y3⟩:=hc k x hx
 have c1:=h.c1
 clear h hc hd
 go_enter Tryz.func131,Tryz.ntmps131
 go_wp2_with (first
  |(go_at_call 163;refine(HH.out).mono ?_;rintro e w1 ⟨rfl,hw⟩;replace hw:=hw.symm;subst hw)
  |(go_at_call 165;refine(HO.out _).mono ?_;rintro e w1 ⟨rfl,c,rfl⟩))
 go_ret
 exact⟨rfl,(Below.refl _ _).alloc (Nat.le_refl _) _⟩
theorem yk (h:fR w base s P v L) (k now:Nat) (x:fU) (hx:L[k]? =some x) (hd:x.d≤now) (hn:now<18446744073709551616):Calls Tryz.prog 131 #[.pointer (some ⟨s,0,none⟩),.int .i64 (k:Int),.int .u64 (now:Int)] w fun e w'=>e= .returned (.int .i64 0)∧fR w' base s P v (L.set k (lr x now))∧Fr (fun k=>some k=v.ownBlock) w w':=by
 have hk:k<L.length:=(List.getElem?_eq_some_iff.1 hx).1
 have HH:=aa (fk h k)
 rw[decide_eq_true (by omega)] at HH
 have HO:=aa (fun w=>vh w x now)
 simp only[decide_eq_true hd] at HO
 have hok:=h.f.all x (List.mem_of_getElem? hx)
 have HF:=aa (fun w=>xG w x now hok hn)
 have HE:Hid (∀w1,Below w.heap.size w w1→fR w1 base s P v L):=fun w1 hb=>h.below hb
 have HX:=aa (BK hok now)
 obtain⟨g,cap,hv,hc1,hc2,hg,hgs,hfz,hc⟩:=h.cells (by omega)
 subst hv
 obtain⟨y0,y1,y2,y3⟩:=hc k x hx
 have c1:=h.c1
 have f0:=hfz (k*4)
 have f1:=hfz (k*4+1)
 have f2:=hfz (k*4+2)
 have f3:=hfz (k*4+3)
 have hs:=h.lt
 clear h hc hd hok hfz
 go_enter Tryz.func131,Tryz.ntmps131
 go_wp2_with (first
  |(go_at_call 163;refine(HH.out).mono ?_;rintro e w1 ⟨rfl,hw⟩;replace hw:=hw.symm;subst hw)
  |(go_at_call 165;refine(HO.out _).mono ?_;rintro e w1 ⟨rfl,c,rfl⟩))
 refine wp_region_held_drew (S:=(fun w'=>w'.cell? ⟨s,1,none⟩=some (.slice (some ⟨g,0,none⟩) L.length cap))) (by kernel_rfl) ?_ (fun hHeld=> ?_)
 ·simp[go_sem,c1,hs]
 refine aF 0 (v:= ?_) rfl ?v0 ?_
 case v0=>(intro w hSw;(try dsimp only at hSw);go_simp;try with_reducible rfl)
 try simp only[ao]
 refine aF 1 (v:= ?_) rfl ?v1 ?_
 case v1=>(intro w hSw;(try dsimp only at hSw);go_simp;try with_reducible rfl)
 try simp only[ao]
 refine aF 2 (v:= ?_) rfl ?v2 ?_
 case v2=>(intro w hSw;(try dsimp only at hSw);go_simp;try with_reducible rfl)
 try simp only[ao]
 refine aF 3 (v:= ?_) rfl ?v3 ?_
 case v3=>(intro w hSw;(try dsimp only at hSw);go_simp;try with_reducible rfl)
 try simp only[ao]
 refine aF 4 (v:= ?_) rfl ?v4 ?_
 case v4=>(intro w hSw;(try dsimp only at hSw);go_simp;try with_reducible rfl)
 try simp only[ao]
 refine aF 5 (v:= ?_) rfl ?v5 ?_
 case v5=>(intro w hSw;(try dsimp only at hSw);go_simp;try with_reducible rfl)
 try simp only[ao]
 refine aF 6 (v:= ?_) rfl ?v6 ?_
 case v6=>(intro w hSw;(try dsimp only at hSw);go_simp;try with_reducible rfl)
 try simp only[ao]
 refine aF 7 (v:= ?_) rfl ?v7 ?_
 case v7=>(intro w hSw;(try dsimp only at hSw);go_simp;try with_reducible rfl)
 try simp only[ao]
 refine aF 8 (v:= ?_) rfl ?v8 ?_
 case v8=>(intro w hSw;(try dsimp only at hSw);go_simp;try with_reducible rfl)
 try simp only[ao]
 refine aF 9 (v:= ?_) rfl ?v9 ?_
 case v9=>(intro w hSw;(try dsimp only at hSw);go_simp;try with_reducible rfl)
 try simp only[ao]
 refine aF 10 (v:= ?_) rfl ?v10 ?_
 case v10=>(intro w hSw;(try dsimp only at hSw);go_simp;try with_reducible rfl)
 try simp only[ao]
 refine aF 12 (v:= ?_) rfl ?v12 ?_
 case v12=>(intro w hSw;(try dsimp only at hSw);go_simp;try with_reducible rfl)
 try simp only[ao]
 refine bc 11 rfl (fun K hK=> ?_)
 go_simp
 refine hK.out _ _ ?_ (fun hHeld=> ?_)
 ·go_keep
 clear hK K
 try simp only[ao]
 refine bc 13 rfl (fun K hK=> ?_)
 go_simp
 refine(HF.out _).mono ?_
 rintro e w1 ⟨rfl,c',c2,hw⟩
 have hb:Below w.heap.size w w1:=by rw[hw];exact(((((Below.refl _ _).alloc (Nat.le_refl _) _).drew).alloc (by simp) _).alloc (by simp;omega) _).drew
 clear hw
 have HP1:=aa (HE.out _ hb)
 have HB:=aa hb
 obtain⟨z1,y0',y1',y2',y3',f0',f1',f2',f3'⟩:=HP1.out.one hx
 clear hb
 go_wp2_with fail
 refine hK.out _ _ ?_ (fun hHeld=> ?_)
 ·exact z1
 clear hK K
 try simp only[ao]
 refine aF 14 (v:= ?_) rfl ?v14 ?_
 case v14=>(intro w hSw;(try dsimp only at hSw);go_simp;try with_reducible rfl)
 try simp only[ao]
 refine bc 15 rfl (fun K hK=> ?_)
 go_simp
 refine hK.out _ _ ?_ (fun hHeld=> ?_)
 ·go_keep
 clear hK K
 try simp only[ao]
 refine wpAnyH_done (by kernel_rfl) ?_ _
 go_wp2
 go_ret
 exact⟨rfl,HP1.out.put rfl hk _ HX.out,nj HB.out g _ _ _ _ _ _ _ _ rfl⟩
end
@[go_sem] theorem Hf (a b : Int) (w : World) : (Instr.build 209 #[(0, .int .u64 a), (1, .int .u64 b)]).run Tryz.prog w = .ok (.agg #[.int .u64 a, .int .u64 b]) w := run_build w 209 _ _ (by kernel_rfl)
@[go_sem] theorem G5 (a b : Int) (w : World) : (Instr.build 211 #[(0, .agg #[.int .u64 a, .int .u64 b])]).run Tryz.prog w = .ok (.agg #[.int .u64 a, .int .u64 b, .int .u64 0, .int .u64 0]) w := run_build w 211 _ _ (by kernel_rfl)
section
variable {w:World} {base s P:Nat} {v:Value} {L:List fU}
theorem aK {P:Program} (w:World) {ops:Array Oper} {o:Oper} {a:Act} {K:Act→World→Prop} {Q:Exit→Act→World→Prop} {E:Prop} (hgd:o.guard=none) (s x:Operand) (t:TypeId)
  (ho:o.op= .call {callee:= .builtin .append,args:= #[s,x],argTypes:= #[t,t]})
  (base:Nat) (e:TypeId) (i:TypeInfo) (z:Value) (size bytes:Nat) (ht:P.underlying t=some (.slice e)) (hi:P.info? e=some i) (hz:i.zero=some z)
  (hsize:i.size=size) (hby:i.bytes=bytes) (hzs:z.cells.size=size) (hsz:0<size)
  (v:Value) (n:Nat) (xs:List Value) (hs:a.eval s=v) (hown:w.ownsRow base e size v n xs)
  (ad:Addr) (m c:Nat) (news:List Value) (hx:a.eval x= .slice (some ad) m c) (hl:news.length=m*size) (hnews: ∀j u,news[j]? =some u→w.cell? (ad.add j)=some u) (h1: ∀u∈news,u.oneCell'=true)
  (h63:n+m≤maxLen) (hbytes:(n+m)*bytes≤140737488355328) (hbase:base≤w.heap.size)
  (h: ∀v' w',w'.ownsRow base e size v' (n+m) (xs++news)→w.grownBy w' v.ownBlock→K (a.put o.dst v') w'):
  if Region.wanted o (yielded ops a.tmps)=true then Oper.wp P o a w K Q else E:=by
 have hw:Region.wanted o (yielded ops a.tmps)=true:=by simp[Region.wanted,hgd]
 rw[if_pos hw]
 exact wp_append_own w s x t ho base e i z size bytes ht hi hz hsize hby hzs hsz v n xs hs hown ad m c news hx hl hnews h1 h63 hbytes hbase fun v' w' h2 h3 _=>h v' w' h2 h3
theorem aH {w:World} {base:Nat} {e:TypeId} {size:Nat} {v:Value} {n:Nat} {xs:List Value} (h:w.ownsRow base e size v n xs): ∃a cap,v= .slice a n cap:=by
 rcases h.2 with ⟨rfl,rfl⟩|⟨g,cap,cur,rfl,_⟩
 ·exact⟨none,0,rfl⟩
 ·exact⟨_,cap,rfl⟩
theorem info_parts {P:Program} {e:TypeId} {z:Value} {n m:Nat} (h:(P.info? e).map (fun i=>(i.zero,i.size,i.bytes))=some (some z,n,m)): ∃i,P.info? e=some i∧i.zero=some z∧i.size=n∧i.bytes=m:=by
 cases hh:P.info? e with
 |none=>rw[hh] at h;cases h
 |some i=>
  rw[hh] at h
  simp at h
  exact⟨i,rfl,h.1,h.2.1,h.2.2⟩
theorem lB {w1 W:World} {c:List Value} {t:TypeId} (h:W.heap=(w1.alloc (.cells c.toArray t)).heap): ∀j u,c[j]? =some u→W.cell? ((⟨w1.heap.size,0,none⟩:Addr).add j)=some u:=by
 intro j u hu
 have hb:W.heap[w1.heap.size]? =some (.cells c.toArray t):=by rw[h];exact(MapKept.heap_alloc w1 _).1
 exact World.news_of_block (cs:=c.toArray) hb j u (by simpa using hu)
end
def Ef (L:List fU) (i:Int):Bool:=decide (0≤i∧i<(L.length:Int))
def ki (L:List fU) (i:Int) (now:Nat):List fU:=if Ef L i∧(lZ L i).d≤now then L.set i.toNat (lr (lZ L i) now) else L
theorem ri {L:List fU} {k:Nat} {x:fU} (hx:L[k]? =some x):lZ L (k:Int)=x∧Ef L (k:Int)=true:=by
 have hk:k<L.length:=(List.getElem?_eq_some_iff.1 hx).1
 unfold lZ Ef
 rw[if_pos (by omega)]
 exact⟨by rw[Int.toNat_natCast,hx];rfl,by simp[hk]⟩
theorem oF (L:List fU) (i:Int):Ef L i=false∧ ¬(0≤i∧i<(L.length:Int))∨ ∃(k:Nat) (x:fU),i=k∧L[k]? =some x:=by
 by_cases h:0≤i∧i<(L.length:Int)
 ·refine .inr ⟨i.toNat,L[i.toNat]'(by omega),by omega,List.getElem?_eq_getElem _⟩
 ·exact .inl ⟨by unfold Ef;simp only[decide_eq_false h],h⟩
section
variable {w:World} {base s P:Nat} {v:Value} {L:List fU}
theorem fR.new (w:World) (P:Nat) (h1:1≤P) (h2:P≤64) (base:Nat) (hb:base≤w.heap.size):fR (w.alloc (.cells #[.int .u64 (P:Int),.slice none 0 0] 124)) base w.heap.size P (.slice none 0 0) []:=
 ⟨(MapKept.heap_alloc w _).1,World.ownsRow_nil _ _ _ _,by simp;omega,h1,h2,by simp,by simp⟩
end
theorem uY {w w':World} {c:Array Value} {t:TypeId} (h:w'=w.alloc (.cells c t)):Below w.heap.size w w':=by rw[h];exact(Below.refl _ _).alloc (Nat.le_refl _) _
end Go.Proofs.YtdbailcdlngemaaGreatDoor.Cb
namespace Go.Proofs.YtdbailcdlngemaaGreatDoor.Gt
open Go.RowKit Go.Lib
theorem aa {p:Prop} (h:p):Hid p:=h
def ax {α:Type} (f:Nat→α) (i:Nat) (x:α):Nat→α:=fun j=>if j=i then x else f j
theorem aj {α:Type} (f:Nat→α) (i:Nat) (x:α):ax f i x i=x:=by simp[ax]
theorem ai {α:Type} (f:Nat→α) (i:Nat) (x:α) (j:Nat) (h:j≠i):ax f i x j=f j:=by simp[ax,h]
theorem au (w:World) (a:Addr) (x u:Value) (h:w.cell? a=some u):(w.setCell a x).cell? a=some x:=World.cell?_setCell_same _ _ _ h
theorem ab (w:World) (b o b' o':Nat) (x:Value) (h: ¬(b=b'∧o=o')):(w.setCell ⟨b,o,none⟩ x).cell? ⟨b',o',none⟩=w.cell? ⟨b',o',none⟩:=
 World.cell?_setCell_other _ _ _ _ (by intro e;simp only[Addr.mk.injEq,and_true] at e;exact h e)
theorem aA (w:World) (c:Array Value) (t:TypeId) (i:Nat):(w.alloc (.cells c t)).cell? ⟨w.heap.size,i,none⟩=c[i]? :=by
 unfold World.cell?
 simp only[(MapKept.heap_alloc w (.cells c t)).1]
 rfl
theorem aG (w:World) (c:Array Value) (t:TypeId) (i:Nat):(w.alloc (.cells c t)).frozen? ⟨w.heap.size,i,none⟩=false:=by
 unfold World.frozen?
 simp only[(MapKept.heap_alloc w (.cells c t)).1]
 simp
structure Fr (S:Nat→Prop) (w w':World):Prop where
 os:w'.os=w.os
 tape:w'.tape=w.tape
 output:w'.output=w.output
 size:w.heap.size≤w'.heap.size
 block: ∀k,k<w.heap.size→ ¬S k→w'.heap[k]? =w.heap[k]?
section
variable {S S':Nat→Prop} {w w' w'':World}
theorem Fr.setCell (h:Fr S w w') {a:Addr} (hb:S a.block) (u:Value):Fr S w (w'.setCell a u):=
 ⟨h.os,h.tape,h.output,by simpa using h.size,fun k hk hn=>(Below.heap_setCell _ _ _ _ (fun e=>hn (by rw[e];exact hb))).trans (h.block k hk hn)⟩
theorem Fr.cell (h:Fr S w w') {a:Addr} (hk:a.block<w.heap.size) (hn: ¬S a.block):w'.cell? a=w.cell? a:=World.cell?_of_block (h.block _ hk hn)
theorem Fr.aE (h:Below w.heap.size w w'):Fr S w w':=⟨h.os,h.tape,h.output,h.size,fun k hk _=>h.block k hk⟩
theorem below_drewN {B:Nat} {w w':World} (h:Below B w w') (q:Nat):Below B w (w'.drewN q):=⟨h.os,h.tape,h.output,h.size,h.block⟩
end
structure aJ (w:World) (b g n:Nat) (G S:Nat→Nat):Prop where
 n1:1≤n
 n2:n≤1024
 bg:b≠g
 sl: ∃cp,w.cell? ⟨b,0,none⟩=some (.slice (some ⟨g,0,none⟩) n cp)
 gn: ∀x,x<n→w.cell? ⟨g,x*2,none⟩=some (.int .u32 (G x:Int))
 st: ∀x,x<n→w.cell? ⟨g,x*2+1,none⟩=some (.int .i64 (S x:Int))
 fg: ∀o,w.frozen? ⟨g,o,none⟩=false
section
variable {w w':World} {b g n:Nat} {G S:Nat→Nat}
theorem aJ.eF (h:aJ w b g n G S):b<w.heap.size:=by obtain⟨cp,e⟩:=h.sl;exact World.block_lt_of_cell? w _ e
theorem aJ.eW (h:aJ w b g n G S):g<w.heap.size:=World.block_lt_of_cell? w _ (h.gn 0 h.n1)
theorem aJ.kept (h:aJ w b g n G S) (hb:w'.heap[b]? =w.heap[b]?) (hg:w'.heap[g]? =w.heap[g]?):aJ w' b g n G S where
 n1:=h.n1
 n2:=h.n2
 bg:=h.bg
 sl:=h.sl.imp fun _ e=>(World.cell?_of_block hb).trans e
 gn:=fun x hx=>(World.cell?_of_block hg).trans (h.gn x hx)
 st:=fun x hx=>(World.cell?_of_block hg).trans (h.st x hx)
 fg:=fun o=>(World.frozen?_of_block hg).trans (h.fg o)
theorem aJ.frame {X:Nat→Prop} (h:aJ w b g n G S) (hf:Fr X w w') (h1: ¬X b) (h2: ¬X g):aJ w' b g n G S:=h.kept (hf.block b h.eF h1) (hf.block g h.eW h2)
theorem aJ.below (h:aJ w b g n G S) (hf:Below w.heap.size w w'):aJ w' b g n G S:=h.kept (hf.block b h.eF) (hf.block g h.eW)
theorem aJ.alloc (h:aJ w b g n G S) (o:Obj):aJ (w.alloc o) b g n G S:=h.below ((Below.refl _ _).alloc (Nat.le_refl _) _)
theorem aJ.pn (h:aJ w b g n G S) (a:w'.heap=w.heap):aJ w' b g n G S:=h.kept (by rw[a]) (by rw[a])
theorem aJ.Hb (h:aJ w b g n G S) (x:Nat) (hx:x<n) (v:Nat):aJ (w.setCell ⟨g,x*2,none⟩ (.int .u32 (v:Int))) b g n (ax G x v) S where
 n1:=h.n1
 n2:=h.n2
 bg:=h.bg
 sl:=h.sl.imp fun _ e=>by rw[ab _ _ _ _ _ _ (fun q=>h.bg q.1.symm)];exact e
 gn:=fun y hy=>by
  by_cases e:y=x
  ·subst e;rw[aj];exact au _ _ _ _ (h.gn y hy)
  ·rw[ai _ _ _ _ e,ab _ _ _ _ _ _ (by omega)];exact h.gn y hy
 st:=fun y hy=>by rw[ab _ _ _ _ _ _ (by omega)];exact h.st y hy
 fg:=fun o=>by rw[World.frozen?_setCell];exact h.fg o
theorem aJ.zz (h:aJ w b g n G S) (x:Nat) (hx:x<n) (v:Nat):aJ (w.setCell ⟨g,x*2+1,none⟩ (.int .i64 (v:Int))) b g n G (ax S x v) where
 n1:=h.n1
 n2:=h.n2
 bg:=h.bg
 sl:=h.sl.imp fun _ e=>by rw[ab _ _ _ _ _ _ (fun q=>h.bg q.1.symm)];exact e
 gn:=fun y hy=>by rw[ab _ _ _ _ _ _ (by omega)];exact h.gn y hy
 st:=fun y hy=>by
  by_cases e:y=x
  ·subst e;rw[aj];exact au _ _ _ _ (h.st y hy)
  ·rw[ai _ _ _ _ e,ab _ _ _ _ _ _ (by omega)];exact h.st y hy
 fg:=fun o=>by rw[World.frozen?_setCell];exact h.fg o
end
def hasB (n:Nat) (G S:Nat→Nat) (p:Int) (q:Nat):Bool:=decide (0≤p)&&decide (p<n)&&decide (S p.toNat≠0)&&decide (G p.toNat=q)
attribute [local go_sem ↓] Go.wp_at_zero Go.wp_at_succ
def jZ:Value:= .agg #[.int .u32 0,.int .i64 0]
def dg (n:Nat):Array Value:=madeCells jZ.cells (n*2)
theorem uw (n k:Nat) (h:k<n*2):(dg n)[k]? =some ((#[Value.int .u32 0,.int .i64 0]:Array Value)[k%2]!):=by
 unfold dg madeCells jZ
 simp[Value.cells,h]
theorem yX:(Tryz.prog.info? 242).map (fun i=>(i.zero,i.size,i.bytes))=some (some jZ,2,16):=by kernel_rfl
theorem gE (w:World) (n:Nat) (h1:1≤n) (h2:n≤1024):
  aJ ((w.alloc (.cells (dg n) 242)).alloc (.cells #[.slice (some ⟨w.heap.size,0,none⟩) n n] 121)) (w.heap.size+1) w.heap.size n (fun _=>0) (fun _=>0):=by
 have e:w.heap.size+1=(w.alloc (.cells (dg n) 242)).heap.size:=by simp
 have hg: ∀i,((w.alloc (.cells (dg n) 242)).alloc (.cells #[.slice (some ⟨w.heap.size,0,none⟩) n n] 121)).cell? ⟨w.heap.size,i,none⟩=(dg n)[i]? :=by
  intro i
  rw[←aA w (dg n) 242 i]
  simp only[World.cell?]
  rw[Below.heap_alloc _ _ _ (by simp)]
 refine⟨h1,h2,by omega,⟨n,by rw[e,aA];rfl⟩,fun x hx=> ?_,fun x hx=> ?_,fun i=> ?_⟩
 ·rw[hg,uw n _ (by omega),show x*2%2=0 by omega];rfl
 ·rw[hg,uw n _ (by omega),show(x*2+1)%2=1 by omega];rfl
 ·rw[←aG w (dg n) 242 i]
  simp only[World.frozen?]
  rw[Below.heap_alloc _ _ _ (by simp)]
theorem fL (n:Nat) (w:World) (h1:1≤n) (h2:n≤1024):
  Calls Tryz.prog 26 #[.int .i64 n] w fun e w'=>e= .returned (.pointer (some ⟨w.heap.size+1,0,none⟩))∧aJ w' (w.heap.size+1) w.heap.size n (fun _=>0) (fun _=>0)∧Below w.heap.size w w':=by
 obtain⟨i0,hi,hz0,hz1,hz2⟩:=info_parts yX
 have hmk: ∀w,(Instr.makeSlice 119 (.int .i64 (n:Int)) (.int .i64 (n:Int))).run Tryz.prog w= .ok (.slice (some ⟨w.heap.size,0,none⟩) n n) (w.alloc (.cells (dg n) 242)):=by
  intro w
  have:=run_make w 119 242 i0 jZ Tryz.underlying119 hi hz0 .i64 .i64 (n:Int) (n:Int) (by omega) (by omega) (by rw[hz2];omega) (by omega)
  rw[hz1,show(n:Int).toNat=n by omega] at this
  exact this
 have HR:=aa (gE w n h1 h2)
 clear hi hz0 hz1 hz2
 go_enter Tryz.func26,Tryz.ntmps26
 go_wp2
 go_ret
 exact⟨rfl,HR.out,((Below.refl _ _).alloc (Nat.le_refl _) _).alloc (by simp) _⟩
section
variable {w:World} {b g n:Nat} {G S:Nat→Nat}
theorem fk (h:aJ w b g n G S) (p:Int) (q:Nat):
  Calls Tryz.prog 139 #[.pointer (some ⟨b,0,none⟩),.agg #[.int .i64 p,.int .u32 (q:Int)]] w fun e w'=>e= .returned (.bool (hasB n G S p q))∧Below w.heap.size w w':=by
 obtain⟨cp,e0⟩:=h.sl
 have hn2:=h.n2
 have hbb:=h.eF
 have hgg:=h.eW
 have y1: ¬b=w.heap.size:=by omega
 have y2: ¬g=w.heap.size:=by omega
 by_cases h0:p<0
 ·have hr:hasB n G S p q=false:=by unfold hasB;simp;omega
  rw[hr]
  clear h
  go_enter Tryz.func139,Tryz.ntmps139
  go_wp2
  go_quiet (fail)
  go_wp2
  go_ret
  exact⟨rfl,below_drewN ((Below.refl _ _).alloc (Nat.le_refl _) _) _⟩
 ·by_cases h1:(n:Int)≤p
  ·have hr:hasB n G S p q=false:=by unfold hasB;simp;omega
   rw[hr]
   clear h
   go_enter Tryz.func139,Tryz.ntmps139
   go_wp2
   go_quiet (fail)
   go_wp2
   go_ret
   exact⟨rfl,below_drewN ((Below.refl _ _).alloc (Nat.le_refl _) _) _⟩
  ·obtain⟨x,rfl⟩:=Int.eq_ofNat_of_zero_le (show 0≤p by omega)
   have hx:x<n:=by omega
   have e1:=h.gn x hx
   have e2:=h.st x hx
   have hr:hasB n G S x q=(decide (¬(S x:Int)=0)&&decide ((G x:Int)=q)):=by
    unfold hasB
    have:(x:Int)<n:=by omega
    simp only[Int.toNat_natCast]
    rw[decide_eq_true (show(0:Int)≤x by omega),decide_eq_true this]
    simp only[Bool.true_and]
    congr 1
    ·exact decide_eq_decide.2 (by omega)
    ·exact decide_eq_decide.2 (by omega)
   rw[hr]
   clear h hr
   go_enter Tryz.func139,Tryz.ntmps139
   go_wp2
   go_quiet (fail)
   go_wp2
   go_region
   all_goals go_wp2
   all_goals go_ret
   ·rename_i hz
    exact⟨by simp[hz],(below_drewN ((Below.refl _ _).alloc (Nat.le_refl _) _) _).alloc (by simp) _⟩
   ·exact⟨by simp[bne,BEq.beq],(below_drewN ((Below.refl _ _).alloc (Nat.le_refl _) _) _).alloc (by simp) _⟩
end
theorem oh {n:Nat} {G S:Nat→Nat} {p:Int} {q:Nat} (h:hasB n G S p q=true): ∃x:Nat,p=x∧x<n∧S x≠0∧G x=q:=by
 unfold hasB at h
 simp only[Bool.and_eq_true,decide_eq_true_eq] at h
 obtain⟨x,rfl⟩:=Int.eq_ofNat_of_zero_le h.1.1.1
 simp only[Int.toNat_natCast] at h
 exact⟨x,rfl,by omega,h.1.2,h.2⟩
theorem py {n:Nat} {G S:Nat→Nat} {x q:Nat} (hx:x<n) (hs:S x≠0) (hg:G x=q):hasB n G S x q=true:=by
 unfold hasB
 simp only[Int.toNat_natCast,Bool.and_eq_true,decide_eq_true_eq]
 exact⟨⟨⟨by omega,by omega⟩,hs⟩,hg⟩
section
variable {w:World} {b g n:Nat} {G S:Nat→Nat}
theorem sJ (h:aJ w b g n G S) (p:Int) (q:Nat) (hh:hasB n G S p q=false):
  Calls Tryz.prog 116 #[.pointer (some ⟨b,0,none⟩),.agg #[.int .i64 p,.int .u32 (q:Int)]] w fun e w'=>e= .returned (.tuple #[.int .i64 0,.bool false])∧Below w.heap.size w w':=by
 have HH:=aa (fk (h.alloc (.cells #[.int .i64 p,.int .u32 (q:Int)] 60)) p q)
 rw[hh] at HH
 clear h
 go_enter Tryz.func116,Tryz.ntmps116
 go_wp2_with (go_at_call 139;refine(HH.out).mono ?_;rintro e w1 ⟨rfl,hb⟩;have HB:=aa hb;clear hb)
 go_ret2
 exact⟨rfl,((Below.refl _ _).alloc (Nat.le_refl _) _).trans (HB.out.mono (by simp))⟩
theorem tO (h:aJ w b g n G S) (x q:Nat) (hx:x<n) (hs:S x≠0) (hg:G x=q):
  Calls Tryz.prog 116 #[.pointer (some ⟨b,0,none⟩),.agg #[.int .i64 (x:Int),.int .u32 (q:Int)]] w fun e w'=>e= .returned (.tuple #[.int .i64 (S x:Int),.bool true])∧Below w.heap.size w w':=by
 have HH:=aa (fk (h.alloc (.cells #[.int .i64 (x:Int),.int .u32 (q:Int)] 60)) x q)
 rw[py hx hs hg] at HH
 have HA:Hid (∀w1,Below (w.alloc (.cells #[.int .i64 (x:Int),.int .u32 (q:Int)] 60)).heap.size (w.alloc (.cells #[.int .i64 (x:Int),.int .u32 (q:Int)] 60)) w1→
   (aJ w1 b g n G S∧w1.cell? ⟨w.heap.size,0,none⟩=some (.int .i64 (x:Int))∧Below w.heap.size w w1)):=by
  intro w1 hb
  refine⟨(h.alloc _).below hb,?_,((Below.refl _ _).alloc (Nat.le_refl _) _).trans (hb.mono (by simp))⟩
  rw[hb.cell (p:=⟨w.heap.size,0,none⟩) (by simp),aA];rfl
 have hn2:=h.n2
 clear h
 go_enter Tryz.func116,Tryz.ntmps116
 go_wp2_with (go_at_call 139;refine(HH.out).mono ?_;rintro e w1 ⟨rfl,hb⟩;obtain⟨hr1,c1,hb1⟩:=HA.out _ hb;obtain⟨cp,c2⟩:=hr1.sl;have c3:=hr1.st x hx;have HB1:=aa hb1;clear hb hb1 hr1)
 go_quiet (fail)
 go_wp2
 go_ret2
 exact⟨rfl,below_drewN HB1.out _⟩
end
def DJ (i j:Nat):Bool:=(i==1&&j==2)||(i==2&&(j==1||j==3||j==4))||((i==3||i==4)&&j==1)
def mu (a b:Int):Bool:=decide (0≤a)&&decide (a≤4)&&decide (0≤b)&&decide (b≤4)&&DJ a.toNat b.toNat
def ju (w:World):Prop:= ∀i j,i<5→j<5→w.cell? ⟨0,i*5+j,none⟩=some (.bool (DJ i j))
theorem ju.pos {w:World} (h:ju w):0<w.heap.size:=World.block_lt_of_cell? w _ (h 0 0 (by omega) (by omega))
theorem ju.frame {w w':World} {X:Nat→Prop} (h:ju w) (hf:Fr X w w') (h0: ¬X 0):ju w':=fun i j hi hj=>(hf.cell (a:=⟨0,i*5+j,none⟩) h.pos h0).trans (h i j hi hj)
theorem ju.below {w w':World} (h:ju w) (hf:Below w.heap.size w w'):ju w':=fun i j hi hj=>(hf.cell (p:=⟨0,i*5+j,none⟩) h.pos).trans (h i j hi hj)
theorem gQ (a:Int) (w:World) (h:0≤a∧a≤4):
  Calls Tryz.prog 172 #[.int .i64 a] w fun e w'=>e= .returned (.bool true)∧w'=w:=by
 have h1:=h.1
 have h2:=h.2
 go_enter Tryz.func172,Tryz.ntmps172
 go_wp2
 all_goals go_ret
 all_goals exact⟨by simp,rfl⟩
theorem mJ (a:Int) (w:World) (h: ¬(0≤a∧a≤4)):
  Calls Tryz.prog 172 #[.int .i64 a] w fun e w'=>e= .returned (.bool false)∧w'=w:=by
 by_cases h0:0≤a
 ·have h1: ¬a≤4:=by omega
  go_enter Tryz.func172,Tryz.ntmps172
  go_wp2
  all_goals go_ret
  all_goals exact⟨by simp,rfl⟩
 ·go_enter Tryz.func172,Tryz.ntmps172
  go_wp2
  all_goals go_ret
  all_goals exact⟨by simp,rfl⟩
theorem FJ (a b:Nat) (w:World) (h:ju w) (ha:a<5) (hb:b<5):
  Calls Tryz.prog 140 #[.int .i64 (a:Int),.int .i64 (b:Int)] w fun e w'=>e= .returned (.bool (DJ a b))∧w'=w:=by
 have e0:=h a b ha hb
 have H1:=aa (gQ (a:Int) w (by omega))
 have H2:=aa (gQ (b:Int) w (by omega))
 generalize hf:DJ a b=f at*
 clear h hf
 go_enter Tryz.func140,Tryz.ntmps140
 go_wp2_with (first
  |(go_at_call 172;refine(H1.out).mono ?_;rintro e w1 ⟨rfl,hw⟩;replace hw:=hw.symm;subst hw;clear H1)
  |(go_at_call 172;refine(H2.out).mono ?_;rintro e w1 ⟨rfl,hw⟩;replace hw:=hw.symm;subst hw;clear H2))
 go_ret
 exact⟨by simp,rfl⟩
theorem B5 (a b:Int) (w:World) (h: ¬(0≤a∧a≤4∧0≤b∧b≤4)):
  Calls Tryz.prog 140 #[.int .i64 a,.int .i64 b] w fun e w'=>e= .returned (.bool false)∧w'=w:=by
 by_cases ha:0≤a∧a≤4
 ·have H1:=aa (gQ a w ha)
  have H2:=aa (mJ b w (by omega))
  clear h ha
  go_enter Tryz.func140,Tryz.ntmps140
  go_wp2_with (first
   |(go_at_call 172;refine(H1.out).mono ?_;rintro e w1 ⟨rfl,hw⟩;replace hw:=hw.symm;subst hw;clear H1)
   |(go_at_call 172;refine(H2.out).mono ?_;rintro e w1 ⟨rfl,hw⟩;replace hw:=hw.symm;subst hw;clear H2))
  go_ret
  exact⟨by simp,rfl⟩
 ·have H1:=aa (mJ a w ha)
  clear h ha
  go_enter Tryz.func140,Tryz.ntmps140
  go_wp2_with (first
   |(go_at_call 172;refine(H1.out).mono ?_;rintro e w1 ⟨rfl,hw⟩;replace hw:=hw.symm;subst hw;clear H1))
  go_ret
  exact⟨by simp,rfl⟩
theorem gV (a b:Int) (w:World) (h:ju w):
  Calls Tryz.prog 140 #[.int .i64 a,.int .i64 b] w fun e w'=>e= .returned (.bool (mu a b))∧w'=w:=by
 by_cases hh:0≤a∧a≤4∧0≤b∧b≤4
 ·obtain⟨x,rfl⟩:=Int.eq_ofNat_of_zero_le hh.1
  obtain⟨y,rfl⟩:=Int.eq_ofNat_of_zero_le hh.2.2.1
  refine(FJ x y w h (by omega) (by omega)).mono ?_
  rintro e w' ⟨rfl,rfl⟩
  refine⟨?_,rfl⟩
  unfold mu
  rw[decide_eq_true hh.1,decide_eq_true hh.2.1,decide_eq_true hh.2.2.1,decide_eq_true hh.2.2.2]
  simp
 ·refine(B5 a b w hh).mono ?_
  rintro e w' ⟨rfl,rfl⟩
  refine⟨?_,rfl⟩
  have:mu a b=false:=by
   unfold mu
   by_cases h1:0≤a<;>by_cases h2:a≤4<;>by_cases h3:0≤b<;>by_cases h4:b≤4<;>simp[h1,h2,h3,h4]
   exact absurd ⟨h1,h2,h3,h4⟩ hh
  rw[this]
section
variable {w:World} {b g n:Nat} {G S:Nat→Nat}
theorem wx (h:aJ w b g n G S) (p s:Int) (q:Nat) (hh:hasB n G S p q=false):
  Calls Tryz.prog 106 #[.pointer (some ⟨b,0,none⟩),.agg #[.int .i64 p,.int .u32 (q:Int)],.int .i64 s] w fun e w'=>e= .returned (.int .i64 6)∧Below w.heap.size w w':=by
 have HH:=aa (fk (h.alloc (.cells #[.int .i64 p,.int .u32 (q:Int)] 60)) p q)
 rw[hh] at HH
 clear h
 go_enter Tryz.func106,Tryz.ntmps106
 go_wp2_with (go_at_call 139;refine(HH.out).mono ?_;rintro e w1 ⟨rfl,hb⟩;have HB:=aa hb;clear hb)
 go_ret
 exact⟨rfl,((Below.refl _ _).alloc (Nat.le_refl _) _).trans (HB.out.mono (by simp))⟩
theorem sH (h:aJ w b g n G S) (ht:ju w) (x q:Nat) (s:Int) (hx:x<n) (hs:S x≠0) (hg:G x=q) (hm:mu (S x) s=false):
  Calls Tryz.prog 106 #[.pointer (some ⟨b,0,none⟩),.agg #[.int .i64 (x:Int),.int .u32 (q:Int)],.int .i64 s] w fun e w'=>e= .returned (.int .i64 11)∧Below w.heap.size w w':=by
 have HH:=aa (fk (h.alloc (.cells #[.int .i64 (x:Int),.int .u32 (q:Int)] 60)) x q)
 rw[py hx hs hg] at HH
 have HA:Hid (∀w1,Below (w.alloc (.cells #[.int .i64 (x:Int),.int .u32 (q:Int)] 60)).heap.size (w.alloc (.cells #[.int .i64 (x:Int),.int .u32 (q:Int)] 60)) w1→
   (aJ w1 b g n G S∧w1.cell? ⟨w.heap.size,0,none⟩=some (.int .i64 (x:Int))∧Below w.heap.size w w1∧ju w1)):=by
  intro w1 hb
  have hbb:=((Below.refl _ _).alloc (Nat.le_refl _) _).trans (hb.mono (by simp))
  refine⟨(h.alloc _).below hb,?_,hbb,ht.below hbb⟩
  rw[hb.cell (p:=⟨w.heap.size,0,none⟩) (by simp),aA];rfl
 have hn2:=h.n2
 have HM:Hid (∀w1,ju w1→Calls Tryz.prog 140 #[.int .i64 (S x:Int),.int .i64 s] w1 fun e w'=>e= .returned (.bool false)∧w'=w1):=fun w1 ht1=>by
  rw[←hm];exact gV _ _ _ ht1
 clear h ht
 go_enter Tryz.func106,Tryz.ntmps106
 go_wp2_with (go_at_call 139;refine(HH.out).mono ?_;rintro e w1 ⟨rfl,hb⟩;obtain⟨hr1,c1,hb1,ht1⟩:=HA.out _ hb;obtain⟨cp,c2⟩:=hr1.sl;have c3:=hr1.st x hx;have HB1:=aa hb1;have HT1:=aa ht1;clear hb hb1 hr1 ht1)
 go_quiet (first|(go_at_call 140;refine Calls.quiet_of_same (HM.out _ ?_);exact(fun i j hi hj=>HT1.out i j hi hj)))
 go_wp2
 go_ret
 exact⟨rfl,below_drewN HB1.out _⟩
theorem vZ (h:aJ w b g n G S) (ht:ju w) (x q:Nat) (s:Nat) (hx:x<n) (hs:S x≠0) (hg:G x=q) (hm:mu (S x) s=true):
  Calls Tryz.prog 106 #[.pointer (some ⟨b,0,none⟩),.agg #[.int .i64 (x:Int),.int .u32 (q:Int)],.int .i64 (s:Int)] w fun e w'=>e= .returned (.int .i64 0)∧aJ w' b g n G (ax S x s)∧Fr (fun k=>k=g) w w':=by
 have HH:=aa (fk (h.alloc (.cells #[.int .i64 (x:Int),.int .u32 (q:Int)] 60)) x q)
 rw[py hx hs hg] at HH
 have HA:Hid (∀w1,Below (w.alloc (.cells #[.int .i64 (x:Int),.int .u32 (q:Int)] 60)).heap.size (w.alloc (.cells #[.int .i64 (x:Int),.int .u32 (q:Int)] 60)) w1→
   (aJ w1 b g n G S∧w1.cell? ⟨w.heap.size,0,none⟩=some (.int .i64 (x:Int))∧Below w.heap.size w w1∧ju w1)):=by
  intro w1 hb
  have hbb:=((Below.refl _ _).alloc (Nat.le_refl _) _).trans (hb.mono (by simp))
  refine⟨(h.alloc _).below hb,?_,hbb,ht.below hbb⟩
  rw[hb.cell (p:=⟨w.heap.size,0,none⟩) (by simp),aA];rfl
 have hn2:=h.n2
 have HM:Hid (∀w1,ju w1→Calls Tryz.prog 140 #[.int .i64 (S x:Int),.int .i64 (s:Int)] w1 fun e w'=>e= .returned (.bool true)∧w'=w1):=fun w1 ht1=>by
  rw[←hm];exact gV _ _ _ ht1
 clear h ht
 go_enter Tryz.func106,Tryz.ntmps106
 go_wp2_with (go_at_call 139;refine(HH.out).mono ?_;rintro e w1 ⟨rfl,hb⟩;obtain⟨hr1,c1,hb1,ht1⟩:=HA.out _ hb;obtain⟨cp,c2⟩:=hr1.sl;have c3:=hr1.st x hx;have c4:=hr1.fg;have HR1:=aa hr1;have HB1:=aa hb1;have HT1:=aa ht1;clear hb hb1 hr1 ht1)
 go_quiet (first|(go_at_call 140;refine Calls.quiet_of_same (HM.out _ ?_);exact(fun i j hi hj=>HT1.out i j hi hj)))
 go_wp2
 go_region
 all_goals go_wp2
 go_ret
 exact⟨rfl,(HR1.out.zz x hx s).pn rfl,by
  have:=((Fr.aE HB1.out).setCell (S:=fun k=>k=g) (a:=⟨g,x*2+1,none⟩) rfl (.int .i64 (s:Int)))
  exact⟨this.os,this.tape,this.output,this.size,this.block⟩⟩
end
end Go.Proofs.YtdbailcdlngemaaGreatDoor.Gt
namespace Go.Proofs.YtdbailcdlngemaaGreatDoor.Gt
open Go.RowKit Go.Shelf
attribute [local go_sem] Oper.semAt_some
def cV (ops:Array Oper):Bool:=ops.all fun o=>match o.op with
 | .defer _=>false
 |_=>true
theorem fo {ops:Array Oper} (h:cV ops=true) {i:Nat} {o:Oper} (ho:ops[i]? =some o): ∀c,o.op≠ .defer c:=by
 intro c e
 unfold cV at h
 rw[Array.all_eq_true'] at h
 have:=h o (Array.mem_of_getElem? ho)
 rw[e] at this
 exact absurd this (by simp)
theorem fj {P:Program} {o:Oper} {a:Act} {w:World} {K:Act→World→Prop} {Q:Exit→Act→World→Prop} {l n:Nat} (hd: ∀c,o.op≠ .defer c) (h:o.wp P a w K Q):o.wpIn (Fence.wide.inRound l) n P a w K Q:=by
 refine⟨fun _ _=>trivial,?_⟩
 rw[Oper.semAt_eq _ _ _ hd]
 unfold Oper.wp at h
 revert h
 generalize (execOp a.eval o).run P w=r
 intro h
 match r,h with
 | .ok (.value _) _,h=>exact h
 | .ok .skip _,h=>exact h
 | .ok (.defer _) _,h=>exact h
 | .ok (.enter f args) w',h=>exact⟨fun q=>absurd q (by simp[Fence.inRound,Fence.wide]),CallsIn.inRound l (callsIn_wide.2 h)⟩
 | .ok (.row row args) w',h=>
  refine⟨fun q=>absurd q (by simp[Fence.inRound,Fence.wide]),fun c cs _=> ?_⟩
  obtain⟨v,w'',r1,s⟩:=h c cs
  exact⟨v,w'',r1,stepsIn_wide.2 s⟩
 | .halt (.panic _) _,h=>exact h
theorem bP {P:Program} {md:Region.Mode} {ops:Array Oper} {Q:Exit→Act→World→Prop} {l n:Nat} (hd:cV ops=true) (hlo: ¬LetsOut Q): ∀(fuel:Nat) (listed:Array Bool) (a:Act) (w:World),wpAny P md ops Q fuel listed a w→wpAnyIn (Fence.wide.inRound l) n P md ops Q fuel listed a w
 |0,_,_,_,h=>h
 |fuel+1,_,a,w,h=>⟨h.1,fun i hi=>by
  have h2:=h.2 i hi
  unfold wpOp at h2
  unfold wpOpIn
  cases ho:ops[i]? with
  |none=>rw[ho] at h2;exact bP hd hlo fuel _ _ _ h2
  |some o=>
   rw[ho] at h2
   dsimp only at h2⊢
   by_cases hw:Region.wanted o (yielded ops a.tmps)=true
   ·rw[if_pos hw] at h2⊢
    rcases h2 with h2|h2
    ·exact fj (fo hd ho) (Oper.wp_mono (fun a w q=>bP hd hlo fuel _ a w q) h2)
    ·exact absurd h2.2 hlo
   ·rw[if_neg hw] at h2⊢
    exact⟨fun _ _=>trivial,bP hd hlo fuel _ _ _ h2⟩⟩
theorem bF {P:Program} {id:Nat} {ops:Array Oper} {Q:Exit→Act→World→Prop} {l n:Nat} {a:Act} {w:World} (S:World→Prop) (hm:P.follows .mixedOrders=true) (hd:cV ops=true) (hlo: ¬LetsOut Q) (hS:S w.drew)
  (h:S w.drew→wpAnyH P .any ops Q S ops.size (Array.replicate ops.size false) a w.drew):(Code.region id ops true).wpIn (Fence.wide.inRound l) n P Q a w:=
 wpIn_region_any hm (bP hd hlo _ _ _ _ (wpAny_of_held _ _ _ _ (h hS)))
def pl (S:Nat→Nat) (fr:Bool) (n:Nat):Nat→List (Fin n)
 |0=>[]
 |k+1=>if h:k<n then(if (S k==0)=fr then pl S fr n k++[⟨k,h⟩] else pl S fr n k) else pl S fr n k
theorem ij {S:Nat→Nat} {fr:Bool} {n k:Nat} (h:k<n) (hs:(S k==0)=fr):pl S fr n (k+1)=pl S fr n k++[⟨k,h⟩]:=by rw[pl,dif_pos h,if_pos hs]
theorem uS {S:Nat→Nat} {fr:Bool} {n k:Nat} (hs: ¬(S k==0)=fr):pl S fr n (k+1)=pl S fr n k:=by rw[pl];split<;>simp
theorem EL (S:Nat→Nat) (fr:Bool) (n k:Nat):pl S fr n k<+:pl S fr n (k+1):=by
 rw[pl]
 split
 ·split
  ·exact List.prefix_append _ _
  ·exact List.prefix_refl _
 ·exact List.prefix_refl _
theorem qD (S:Nat→Nat) (fr:Bool) (n k:Nat): ∀d,pl S fr n k<+:pl S fr n (k+d)
 |0=>List.prefix_refl _
 |d+1=>(qD S fr n k d).trans (EL S fr n (k+d))
theorem ub (S:Nat→Nat) (fr:Bool) (n:Nat): ∀k,(pl S fr n k).length≤k
 |0=>Nat.le_refl _
 |k+1=>by
  have:=ub S fr n k
  rw[pl]
  split
  ·split<;>simp<;>omega
  ·omega
def Kp (n0 B2:Nat) (fr:Bool) (A B:World):Prop:=Below n0 A B∧(Boxed A B2 4 (.bool fr)→Boxed B B2 4 (.bool fr))
structure Reads (W:World) (g n:Nat) (G S:Nat→Nat):Prop where
 gn: ∀x,x<n→W.cell? ⟨g,x*2,none⟩=some (.int .u32 (G x:Int))
 st: ∀x,x<n→W.cell? ⟨g,x*2+1,none⟩=some (.int .i64 (S x:Int))
theorem Reads.below {W W':World} {g n n0:Nat} {G S:Nat→Nat} (h:Reads W g n G S) (hb:Below n0 W W') (h2:g<n0):Reads W' g n G S:=
 ⟨fun x hx=>(hb.cell (p:=⟨g,x*2,none⟩) h2).trans (h.gn x hx),fun x hx=>(hb.cell (p:=⟨g,x*2+1,none⟩) h2).trans (h.st x hx)⟩
theorem aJ.reads {w:World} {b g n:Nat} {G S:Nat→Nat} (h:aJ w b g n G S):Reads w g n G S:=⟨h.gn,h.st⟩
theorem wN (nn:Nat) (hn:1≤nn) (l B1 B2 n0 b g n cp:Nat) (G S:Nat→Nat) (fr:Bool) (J Jx:List (Fin n)→World→Prop)
  (hA: ∀pre W o,J pre W→J pre (World.alloc W o))
  (hY: ∀pre (x:Fin n) W,J pre W→pre.length<(pl S fr n n).length→YieldAt Fence.wide (nn-1) Tryz.prog l #[.int .i64 (x.val:Int)] W fun e W'=>
   (e= .returned (.bool true)∧J (pre++[x]) W'∧Kp n0 B2 fr W W')∨(e= .returned (.bool false)∧Jx (pre++[x]) W'))
  (W:World) (hb1:W.cell? ⟨B1,0,none⟩=some (.pointer (some ⟨b,0,none⟩))) (hb2:Boxed W B2 4 (.bool fr)) (hsl:W.cell? ⟨b,0,none⟩=some (.slice (some ⟨g,0,none⟩) n cp)) (hr:Reads W g n G S) (hn1:n≤1024) (hgn:g<n0) (hn0:n0≤W.heap.size) (h0:J [] W):
  CallsIn Fence.wide nn Tryz.prog 152 #[.func (.yield l) #[] #[],.pointer (some ⟨B1,0,none⟩),.pointer (some ⟨B2,0,none⟩)] W fun e W'=>(∃v,e= .returned v)∧
   ((∃ys,ys=pl S fr n n∧J ys W')∨(∃pre,pre<+:pl S fr n n∧Jx pre W')):=by
 have HB2:=aa hb2
 have HR:=aa hr
 have H0:=aa h0
 have HY:=aa hY
 have HA:=aa hA
 have HN0:=aa hn0
 clear hb2 hr h0 hY hA hn0
 refine callsIn_of_wp Tryz.func152 rfl trivial ?_ rfl
 simp only[Tryz.ntmps152,List.size_toArray,List.length_cons,List.length_nil,Nat.reduceAdd,Nat.reduceSub,Array.replicate_succ,Array.replicate_zero,List.push_toArray,List.append_toArray,List.nil_append,List.cons_append]
 gi_wp2
 gi_loopw [11] (fun p wr=> ∃k:Nat,k≤n∧p= .int .i64 (k:Int)∧Reads wr g n G S∧Boxed wr B2 4 (.bool fr)∧n0≤wr.heap.size∧J (pl S fr n k) wr) (fun p _=>n-(intOf p).toNat)
 case atStart=>exact⟨0,by omega,rfl,HR.out,HB2.out,HN0.out,H0.out⟩
 case round=>
  obtain⟨k,hk,rfl,hre,hbx,hsz,hJ⟩:=hrel
  by_cases hkn:k<n
  ·have e1:=hre.gn k hkn
   have e2:=hre.st k hkn
   have e3:=hbx.cell
   have hlt:=hbx.lt
   have y1: ¬B2=wr.heap.size:=by omega
   have y2: ¬g=wr.heap.size:=by omega
   have hJ1:=HA.out _ _ (.cells #[.int .u32 (G k:Int),.int .i64 (S k:Int)] 242) hJ
   have hbx1:=hbx.alloc (.cells #[.int .u32 (G k:Int),.int .i64 (S k:Int)] 242)
   have e4:=hbx1.cell
   have hre1:Reads (wr.alloc (.cells #[.int .u32 (G k:Int),.int .i64 (S k:Int)] 242)) g n G S:=hre.below ((Below.refl n0 _).alloc hsz _) hgn
   have hsz1:n0≤(wr.alloc (.cells #[.int .u32 (G k:Int),.int .i64 (S k:Int)] 242)).heap.size:=by simp;omega
   by_cases hp:(S k==0)=fr
   ·have hlen:(pl S fr n k).length<(pl S fr n n).length:=by
     have h1:=qD S fr n (k+1) (n-(k+1))
     rw[show k+1+(n-(k+1))=n by omega,ij hkn hp] at h1
     have:=h1.length_le
     simp at this
     omega
    obtain⟨fn,tmps,assign,body,hy,hR⟩:=HY.out _ ⟨k,hkn⟩ _ hJ1 hlen
    have HBx:=aa hbx1
    have HRe:=aa hre1
    have HS:=aa hsz1
    have HP:=aa hp
    clear hJ hJ1 hbx hbx1 hre hre1 hlen hsz hsz1 hlt
    dsimp only at hy
    cases fr
    ·have hz: ¬(S k:Int)=0:=by intro q;have:S k=0:=(by omega);rw[this] at hp;exact absurd hp (by decide)
     have hz2:((S k:Int)==0)=false:=by simpa using hz
     clear hp
     gi_wp2
     refine hR.mono ?_
     rintro e W3 (⟨rfl,hJ3,hk3⟩|⟨rfl,hJx3⟩)
     ·have hbx3:=hk3.2 HBx.out
      have re3:=HRe.out.below hk3.1 hgn
      have hs3:n0≤W3.heap.size:=Nat.le_trans HS.out hk3.1.size
      have HBx3:=aa hbx3
      have HRe3:=aa re3
      have HS3:=aa hs3
      have HJ3:=aa hJ3
      clear hbx3 re3 hJ3 hk3 hs3 hy hR HY
      gi_wp2
      go_roundw
      case rel=>exact⟨k+1,by omega,by go_num,HRe3.out,HBx3.out,HS3.out,by rw[ij hkn HP.out];exact HJ3.out⟩
      case measure=>simp[intOf];omega
     ·have HJx:=aa hJx3
      clear hJx3 hy hR HY
      gi_wp2
      refine bodyPost_ret (results_none rfl _ _ _) rfl ?_
      refine⟨⟨_,rfl⟩,.inr ⟨_,?_,HJx.out⟩⟩
      have h1:=qD S false n (k+1) (n-(k+1))
      rw[show k+1+(n-(k+1))=n by omega,ij hkn HP.out] at h1
      exact h1
    ·have hz:(S k:Int)=0:=by have:S k=0:=(by simpa using hp);omega
     rw[hz] at e2 e4 hy hR HBx HRe HS
     clear hp
     gi_wp2
     refine hR.mono ?_
     rintro e W3 (⟨rfl,hJ3,hk3⟩|⟨rfl,hJx3⟩)
     ·have hbx3:=hk3.2 HBx.out
      have re3:=HRe.out.below hk3.1 hgn
      have hs3:n0≤W3.heap.size:=Nat.le_trans HS.out hk3.1.size
      have HBx3:=aa hbx3
      have HRe3:=aa re3
      have HS3:=aa hs3
      have HJ3:=aa hJ3
      clear hbx3 re3 hJ3 hk3 hs3 hy hR HY
      gi_wp2
      go_roundw
      case rel=>exact⟨k+1,by omega,by go_num,HRe3.out,HBx3.out,HS3.out,by rw[ij hkn HP.out];exact HJ3.out⟩
      case measure=>simp[intOf];omega
     ·have HJx:=aa hJx3
      clear hJx3 hy hR HY
      gi_wp2
      refine bodyPost_ret (results_none rfl _ _ _) rfl ?_
      refine⟨⟨_,rfl⟩,.inr ⟨_,?_,HJx.out⟩⟩
      have h1:=qD S true n (k+1) (n-(k+1))
      rw[show k+1+(n-(k+1))=n by omega,ij hkn HP.out] at h1
      exact h1
   ·have HBx:=aa hbx1
    have HRe:=aa hre1
    have HS:=aa hsz1
    have HP:=aa hp
    have HJ1:=aa hJ1
    clear hJ hJ1 hbx hbx1 hre hre1 hsz hsz1 hlt
    cases fr
    ·have hz:(S k:Int)=0:=by have:S k=0:=(by simpa using hp);omega
     rw[hz] at e2 e4 HBx HRe HS HJ1
     clear hp HY
     gi_wp2
     refine⟨fun _ h=>(by cases h),?_⟩
     gi_wp2
     go_roundw
     case rel=>exact⟨k+1,by omega,by go_num,HRe.out,HBx.out,HS.out,by rw[uS HP.out];exact HJ1.out⟩
     case measure=>simp[intOf];omega
    ·have hz: ¬(S k:Int)=0:=by intro q;have:S k=0:=(by omega);rw[this] at hp;exact absurd rfl hp
     clear hp HY
     gi_wp2
     refine⟨fun _ h=>(by cases h),?_⟩
     gi_wp2
     go_roundw
     case rel=>exact⟨k+1,by omega,by go_num,HRe.out,HBx.out,HS.out,by rw[uS HP.out];exact HJ1.out⟩
     case measure=>simp[intOf];omega
  ·have hkn':k=n:=by omega
   subst hkn'
   have HJ:=aa hJ
   clear hre hbx hJ hsz HY
   gi_wp2
   go_end0
   exact⟨⟨_,rfl⟩,.inl ⟨_,rfl,HJ.out⟩⟩
theorem aK {P:Program} (w:World) {ops:Array Oper} {o:Oper} {a:Act} {K:Act→World→Prop} {Q:Exit→Act→World→Prop} {E:Prop} (hgd:o.guard=none) (s x:Operand) (t:TypeId)
  (ho:o.op= .call {callee:= .builtin .append,args:= #[s,x],argTypes:= #[t,t]})
  (base:Nat) (e:TypeId) (i:TypeInfo) (z:Value) (size bytes:Nat) (ht:P.underlying t=some (.slice e)) (hi:P.info? e=some i) (hz:i.zero=some z)
  (hsize:i.size=size) (hby:i.bytes=bytes) (hzs:z.cells.size=size) (hsz:0<size)
  (v:Value) (n:Nat) (xs:List Value) (hs:a.eval s=v) (hown:w.ownsRow base e size v n xs)
  (ad:Addr) (m c:Nat) (news:List Value) (hx:a.eval x= .slice (some ad) m c) (hl:news.length=m*size) (hnews: ∀j u,news[j]? =some u→w.cell? (ad.add j)=some u) (h1: ∀u∈news,u.oneCell'=true)
  (h63:n+m≤maxLen) (hbytes:(n+m)*bytes≤140737488355328) (hbase:base≤w.heap.size)
  (h: ∀v' w',w'.ownsRow base e size v' (n+m) (xs++news)→w.grownBy w' v.ownBlock→K (a.put o.dst v') w'):
  if Region.wanted o (yielded ops a.tmps)=true then Oper.wp P o a w K Q else E:=by
 have hw:Region.wanted o (yielded ops a.tmps)=true:=by simp[Region.wanted,hgd]
 rw[if_pos hw]
 exact wp_append_own w s x t ho base e i z size bytes ht hi hz hsize hby hzs hsz v n xs hs hown ad m c news hx hl hnews h1 h63 hbytes hbase fun v' w' h2 h3 _=>h v' w' h2 h3
theorem aH {w:World} {base:Nat} {e:TypeId} {size:Nat} {v:Value} {n:Nat} {xs:List Value} (h:w.ownsRow base e size v n xs): ∃a c,v= .slice a n c:=by
 rcases h.2 with ⟨e,e0⟩|⟨g,cap,cur,e,_⟩
 ·exact⟨none,0,by rw[e,e0]⟩
 ·exact⟨_,cap,e⟩
theorem iG (nn b:Nat) (fr:Bool) (w:World):
  CallsIn Fence.wide nn Tryz.prog 110 #[.pointer (some ⟨b,0,none⟩),.bool fr] w fun e w'=>e= .returned (.func (.func 152) #[] #[.pointer (some ⟨w.heap.size,0,none⟩),.pointer (some ⟨w.heap.size+1,0,none⟩)])∧
   w'=(w.alloc (.cells #[.pointer (some ⟨b,0,none⟩)] 82)).alloc (.cells #[.bool fr] 4):=by
 refine callsIn_of_wp Tryz.func110 rfl trivial ?_ rfl
 simp only[Tryz.ntmps110,List.size_toArray,List.length_cons,List.length_nil,Nat.reduceAdd,Nat.reduceSub,Array.replicate_succ,Array.replicate_zero,List.push_toArray,List.append_toArray,List.nil_append,List.cons_append]
 gi_wp2
 go_ret
 exact⟨by simp,rfl⟩
theorem rE {n0 B2:Nat} {fr:Bool} {A B C:World} (h:Kp n0 B2 fr A B) (h':Kp n0 B2 fr B C):Kp n0 B2 fr A C:=⟨h.1.trans h'.1,fun q=>h'.2 (h.2 q)⟩
theorem zc {w:World} {n0 B2:Nat} {fr:Bool} (hn:n0≤w.heap.size) (W:World) (l:Nat) (o o':Obj) (hl:w.heap.size≤l) (ho:W.heap[l]? =some o) (hc:o.isCells=false) (hw:o.isWalk=false):Kp n0 B2 fr W (W.putObj l o'):=by
 refine⟨belowK_b hn W l o o' hl ho hc hw,fun q=>q.kept (grownBy_putObj' W l o') (fun e=> ?_)⟩
 cases e
 rw[show W.heap[B2]? =_ from q] at ho
 cases ho
 cases hc
theorem wM {W w1:World} {n0 B B2 size:Nat} {fr:Bool} {t e:TypeId} {v v':Value} {k m:Nat} {xs ys:List Value} {tmp:Obj} (hte:4≠e) (hte':t≠e) (hv:Boxed W B t v) (hrow:W.ownsRow n0 e size v k xs) (hn0:n0≤W.heap.size) (hB:n0≤B) (hne:B2≠B)
  (hown':w1.ownsRow n0 e size v' m ys) (hgrow:(W.alloc tmp).grownBy w1 v.ownBlock):Kp n0 B2 fr W (w1.setCell ⟨B,0,none⟩ v'):=by
 refine⟨(hv.appended hte' hrow hn0 hB hown' hgrow).2.2.2.2,fun q=> ?_⟩
 have q1:=(q.alloc tmp).kept hgrow (q.not_row hte hrow)
 exact q1.kept (grownBy_setCell' w1 B v') (by simp[hne])
theorem eQ (nn:Nat) (hn:1≤nn) (B1 B2 n0 b g n cp:Nat) (G S:Nat→Nat) (fr:Bool) (w:World) (hb1:Boxed w B1 82 (.pointer (some ⟨b,0,none⟩))) (hb2:Boxed w B2 4 (.bool fr)) (hsl:w.cell? ⟨b,0,none⟩=some (.slice (some ⟨g,0,none⟩) n cp)) (hr:Reads w g n G S) (hn1:n≤1024) (hbn:b<n0) (hgn:g<n0) (hn0:n0≤w.heap.size):
  SeqStopsK Fence.wide nn Tryz.prog 152 #[.pointer (some ⟨B1,0,none⟩),.pointer (some ⟨B2,0,none⟩)] (fun x:Fin n=> #[Value.int .i64 (x.val:Int)]) (Kp n0 B2 fr) (fun ys=>ys=pl S fr n n) (fun pre=>pre<+:pl S fr n n) (pl S fr n n).length w:=by
 intro l J Jx W hW hJ hJx hY h0
 exact wN nn hn l B1 B2 n0 b g n cp G S fr J Jx (fun pre W o hh=>hJ pre W _ none hh (World.grownBy_alloc W o none) (fun r e=>by cases e)) hY W ((hW.cell (p:=⟨B1,0,none⟩) hb1.lt).trans hb1.cell) ((hW.block B2 hb2.lt).trans hb2) ((hW.cell (p:=⟨b,0,none⟩) (by simp;omega)).trans hsl) (hr.below (hW.mono hn0) hgn) hn1 hgn (Nat.le_trans hn0 hW.size) h0
def cm (G:Nat→Nat) {n:Nat} (l:List (Fin n)):List Value:=l.flatMap (fun x=>[Value.int .i64 (x.val:Int),.int .u32 (G x.val:Int)])
theorem pR (G:Nat→Nat) {n:Nat} (l:List (Fin n)) (x:Fin n):cm G (l++[x])=cm G l++[.int .i64 (x.val:Int),.int .u32 (G x.val:Int)]:=by unfold cm;simp
theorem EC:(Tryz.prog.info? 60).map (fun i=>(i.zero,i.size,i.bytes))=some (some (.agg #[.int .i64 0,.int .u32 0]),2,16):=by kernel_rfl
theorem Ci (b g n:Nat) (G S:Nat→Nat) (w:World) (hq:aJ w b g n G S):
  CallsIn Fence.wide 4 Tryz.prog 80 #[.pointer (some ⟨b,0,none⟩)] w fun e W'=> ∃v,e= .returned v∧W'.ownsRow w.heap.size 60 2 v (pl S false n n).length (cm G (pl S false n n))∧Below w.heap.size w W':=by
 have hlb:=hq.eF
 have hlg:=hq.eW
 have hn:=hq.n2
 obtain⟨cp,hsl⟩:=hq.sl
 have hlen:=ub S false n n
 have HQ:=aa hq
 clear hq
 obtain⟨i0,hi,hz0,hz1,hz2⟩:=info_parts EC
 refine callsIn_of_wp_marks Tryz.func80 rfl trivial ?_ rfl
 simp only[Tryz.ntmps80,List.size_toArray,List.length_cons,List.length_nil,Nat.reduceAdd,Nat.reduceSub,Array.replicate_succ,Array.replicate_zero,List.push_toArray,List.append_toArray,List.nil_append,List.cons_append]
 gi_wp2_with (refine⟨trivial,?_⟩;gi_at_call 110;refine(iG _ b false _).mono ?_;rintro e w' ⟨rfl,rfl⟩)
 have bT:=Boxed.new w 82 (.pointer (some ⟨b,0,none⟩))
 have bO:=Boxed.new (w.alloc (.cells #[.pointer (some ⟨b,0,none⟩)] 82)) 197 (.slice none 0 0)
 have b1:=Boxed.new ((w.alloc (.cells #[.pointer (some ⟨b,0,none⟩)] 82)).alloc (.cells #[.slice none 0 0] 197)) 82 (.pointer (some ⟨b,0,none⟩))
 have b2:=Boxed.new (((w.alloc (.cells #[.pointer (some ⟨b,0,none⟩)] 82)).alloc (.cells #[.slice none 0 0] 197)).alloc (.cells #[.pointer (some ⟨b,0,none⟩)] 82)) 4 (.bool false)
 have hB0:Below w.heap.size w ((((w.alloc (.cells #[.pointer (some ⟨b,0,none⟩)] 82)).alloc (.cells #[.slice none 0 0] 197)).alloc (.cells #[.pointer (some ⟨b,0,none⟩)] 82)).alloc (.cells #[.bool false] 4)):=((((Below.refl _ w).alloc (Nat.le_refl _) _).alloc (by simp) _).alloc (by simp;omega) _).alloc (by simp;omega) _
 simp only[World.size_alloc] at bO b1 b2⊢
 refine wpIn_rangeFunc_ownG rfl (by decide) (gf:=152) (lb:= #[.pointer (some ⟨w.heap.size+1+1,0,none⟩),.pointer (some ⟨w.heap.size+1+1+1,0,none⟩)]) rfl trivial (enters_of Tryz.func152 (by kernel_rfl) rfl)
  (eQ 3 (by decide) (w.heap.size+1+1) (w.heap.size+1+1+1) w.heap.size b g n cp G S false _ (b1.alloc _) b2 ((hB0.cell (p:=⟨b,0,none⟩) hlb).trans hsl) (HQ.out.reads.below hB0 hlg) hn hlb hlg hB0.size) rE (zc hB0.size) (Below.refl _ _) (fun _=>rfl)
  (fun (pre:List (Fin n)) W=>((∃v,Boxed W (w.heap.size+1) 197 v∧W.ownsRow w.heap.size 60 2 v pre.length (cm G pre)∧True)∧Boxed W w.heap.size 82 (.pointer (some ⟨b,0,none⟩)))∧Below w.heap.size w W)
  (fun _ _ _=>False)
  (OwnFrom.and (OwnFrom.and (Own.from (holdsRow_own w.heap.size (w.heap.size+1) 197 60 2 (fun pre:List (Fin n)=>pre.length) (fun pre:List (Fin n)=>cm G pre) (fun _ _=>True)) _) (Own.from (boxed_own w.heap.size 82 (fun _:List (Fin n)=> .pointer (some ⟨b,0,none⟩))) _)) (ownFrom_below (Nat.le_refl _) hB0.size))
  (fun _ _ _ _ _ hs _ _=>hs)
  ⟨⟨⟨_,(bO.alloc _).alloc _,World.ownsRow_nil _ _ _ _,trivial⟩,((bT.alloc _).alloc _).alloc _⟩,hB0⟩
  (fun x=>{tmps:= #[.pointer (some ⟨b,0,none⟩),.pointer (some ⟨w.heap.size,0,none⟩),.slice none 0 0,.pointer (some ⟨w.heap.size+1,0,none⟩),.int .i64 (x.val:Int),.pointer (some ⟨b,0,none⟩),.bool false,.pointer (some ⟨b,0,none⟩),.func (.func 152) #[] #[.pointer (some ⟨w.heap.size+1+1,0,none⟩),.pointer (some ⟨w.heap.size+1+1+1,0,none⟩)],.int .i64 (x.val:Int),undef,undef,undef,undef,undef,undef,undef,undef,undef,undef,undef,undef,undef,undef],defers:=[]}) ?assign ?body ?done ?stop
 case assign=>
  intro l x W K hK
  gi_wp2
  exact hK
 case body=>
  rintro l pre x W ⟨⟨⟨v,hv,hrow,_⟩,hbt⟩,hB⟩ hlt
  obtain⟨a0,c0,rfl⟩:=aH hrow
  have hc:=hv.cell
  have hf:=hv.frozen
  have hct:=hbt.cell
  have hsz:=hB.size
  have hxn:=x.isLt
  have hsl1:=(hB.cell (p:=⟨b,0,none⟩) hlb).trans hsl
  have hg1:=(hB.cell (p:=⟨g,x.val*2,none⟩) hlg).trans (HQ.out.gn x.val hxn)
  have HU:=aa Tryz.underlying197
  have HL:Hid ((W.drew.alloc (.cells #[.int .i64 (x.val:Int),.int .u32 (G x.val:Int)] 60)).ownsRow w.heap.size 60 2 (.slice a0 pre.length c0) pre.length (cm G pre)):=by
   have:=hrow.alloc (.cells #[.int .i64 (x.val:Int),.int .u32 (G x.val:Int)] 60)
   exact this
  have HN:Hid (∀j u,[Value.int .i64 (x.val:Int),.int .u32 (G x.val:Int)][j]? =some u→(W.drew.alloc (.cells #[.int .i64 (x.val:Int),.int .u32 (G x.val:Int)] 60)).cell? ((⟨W.heap.size,0,none⟩:Addr).add j)=some u):=by
   intro j u hu
   have hadd:(⟨W.heap.size,0,none⟩:Addr).add j=⟨W.heap.size,j,none⟩:=by unfold Addr.add;split<;>simp_all
   rw[hadd]
   have:=aA W.drew #[.int .i64 (x.val:Int),.int .u32 (G x.val:Int)] 60 j
   rw[show W.drew.heap.size=W.heap.size from rfl] at this
   rw[this]
   simpa using hu
  have HF:Hid (∀(w1:World) (v':Value),w1.ownsRow w.heap.size 60 2 v' (pre.length+1) (cm G pre++[.int .i64 (x.val:Int),.int .u32 (G x.val:Int)])→(W.drew.alloc (.cells #[.int .i64 (x.val:Int),.int .u32 (G x.val:Int)] 60)).grownBy w1 (Value.ownBlock (.slice a0 pre.length c0))→
    w1.cell? ⟨w.heap.size+1,0,none⟩=some (.slice a0 pre.length c0)∧w1.frozen? ⟨w.heap.size+1,0,none⟩=false∧
    (w1.cell? ⟨w.heap.size,0,none⟩=some (.pointer (some ⟨b,0,none⟩))∧w1.cell? ⟨b,0,none⟩=some (.slice (some ⟨g,0,none⟩) n cp)∧w1.cell? ⟨g,x.val*2,none⟩=some (.int .u32 (G x.val:Int)))∧
    ((w1.setCell ⟨w.heap.size+1,0,none⟩ v').cell? ⟨w.heap.size,0,none⟩=some (.pointer (some ⟨b,0,none⟩))∧(w1.setCell ⟨w.heap.size+1,0,none⟩ v').cell? ⟨b,0,none⟩=some (.slice (some ⟨g,0,none⟩) n cp)∧(w1.setCell ⟨w.heap.size+1,0,none⟩ v').cell? ⟨g,x.val*2,none⟩=some (.int .u32 (G x.val:Int)))∧
    (KeepsFrom ((((w.alloc (.cells #[.pointer (some ⟨b,0,none⟩)] 82)).alloc (.cells #[.slice none 0 0] 197)).alloc (.cells #[.pointer (some ⟨b,0,none⟩)] 82)).alloc (.cells #[.bool false] 4)).heap.size W (w1.setCell ⟨w.heap.size+1,0,none⟩ v')∧Kp w.heap.size (w.heap.size+1+1+1) false W (w1.setCell ⟨w.heap.size+1,0,none⟩ v')∧
     ((∃v,Boxed (w1.setCell ⟨w.heap.size+1,0,none⟩ v') (w.heap.size+1) 197 v∧(w1.setCell ⟨w.heap.size+1,0,none⟩ v').ownsRow w.heap.size 60 2 v (pre++[x]).length (cm G (pre++[x]))∧True)∧Boxed (w1.setCell ⟨w.heap.size+1,0,none⟩ v') w.heap.size 82 (.pointer (some ⟨b,0,none⟩)))∧Below w.heap.size w (w1.setCell ⟨w.heap.size+1,0,none⟩ v'))):=by
   intro w1 v' ho hg
   have hgW:(W.alloc (.cells #[.int .i64 (x.val:Int),.int .u32 (G x.val:Int)] 60)).grownBy w1 (Value.ownBlock (.slice a0 pre.length c0)):=⟨hg.os,hg.tape,hg.output,hg.size,hg.block⟩
   obtain⟨hv1,hv2,hr2,hk2,hb2⟩:=hv.appended (by decide) hrow hsz (by omega) ho hgW
   have hkp:=wM (B2:=w.heap.size+1+1+1) (fr:=false) (by decide) (by decide) hv hrow hsz (by omega) (by omega) ho hgW
   have hbt1:=(hbt.alloc (.cells #[.int .i64 (x.val:Int),.int .u32 (G x.val:Int)] 60)).kept hgW (hbt.not_row (by decide) hrow)
   have hbt2:Boxed (w1.setCell ⟨w.heap.size+1,0,none⟩ v') w.heap.size 82 (.pointer (some ⟨b,0,none⟩)):=hbt1.other (by omega) _
   have hbw:=hB.trans hb2
   have hw1:Below w.heap.size W w1:=by
    refine((Below.refl w.heap.size W).alloc hsz (.cells #[.int .i64 (x.val:Int),.int .u32 (G x.val:Int)] 60)).trans ⟨hgW.os,hgW.tape,hgW.output,hgW.size,fun k hk=>hgW.block k (Nat.lt_of_lt_of_le hk (by simp;omega)) (fun e=> ?_)⟩
    have:=(hrow.lt k e.symm).1
    omega
   have hbw1:=hB.trans hw1
   refine⟨hv1.cell,hv1.frozen,⟨hbt1.cell,(hbw1.cell (p:=⟨b,0,none⟩) hlb).trans hsl,(hbw1.cell (p:=⟨g,x.val*2,none⟩) hlg).trans (HQ.out.gn x.val hxn)⟩,⟨hbt2.cell,(hbw.cell (p:=⟨b,0,none⟩) hlb).trans hsl,(hbw.cell (p:=⟨g,x.val*2,none⟩) hlg).trans (HQ.out.gn x.val hxn)⟩,hk2.from _,hkp,⟨⟨_,hv2,by rw[pR];simpa using hr2,trivial⟩,hbt2⟩,hbw⟩
  have hple:pre.length<1024:=by omega
  have hcA:=(hv.alloc (.cells #[.int .i64 (x.val:Int),.int .u32 (G x.val:Int)] 60)).cell
  have yA: ¬w.heap.size+1=W.heap.size:=by have:=hv.lt;omega
  have HA:Hid ((W.alloc (.cells #[.int .i64 (x.val:Int),.int .u32 (G x.val:Int)] 60)).cell? ⟨w.heap.size,0,none⟩=some (.pointer (some ⟨b,0,none⟩))∧(W.alloc (.cells #[.int .i64 (x.val:Int),.int .u32 (G x.val:Int)] 60)).cell? ⟨b,0,none⟩=some (.slice (some ⟨g,0,none⟩) n cp)∧(W.alloc (.cells #[.int .i64 (x.val:Int),.int .u32 (G x.val:Int)] 60)).cell? ⟨g,x.val*2,none⟩=some (.int .u32 (G x.val:Int))):=
   ⟨(hbt.alloc _).cell,(World.cell?_alloc_lt _ _ _ (by simp;omega)).trans hsl1,(World.cell?_alloc_lt _ _ _ (by simp;omega)).trans hg1⟩
  clear hv hrow hbt hB
  gi_wp2
  refine bF (fun w'=>w'.cell? ⟨w.heap.size,0,none⟩=some (.pointer (some ⟨b,0,none⟩))∧w'.cell? ⟨b,0,none⟩=some (.slice (some ⟨g,0,none⟩) n cp)∧w'.cell? ⟨g,x.val*2,none⟩=some (.int .u32 (G x.val:Int))) (by kernel_rfl) (by kernel_rfl) (by rintro⟨a,w,h⟩;exact h) ⟨hct,hsl1,hg1⟩ (fun hHeld=> ?_)
  refine aF 1 (v:= ?_) rfl ?v1 ?_
  case v1=>(intro w hSw;(try dsimp only at hSw);go_simp;try with_reducible rfl)
  try simp only[ao]
  refine aF 2 (v:= ?_) rfl ?v2 ?_
  case v2=>(intro w hSw;(try dsimp only at hSw);go_simp;try with_reducible rfl)
  try simp only[ao]
  refine aF 3 (v:= ?_) rfl ?v3 ?_
  case v3=>(intro w hSw;(try dsimp only at hSw);go_simp;try with_reducible rfl)
  try simp only[ao]
  refine aF 4 (v:= ?_) rfl ?v4 ?_
  case v4=>(intro w hSw;(try dsimp only at hSw);go_simp;try with_reducible rfl)
  try simp only[ao]
  refine aF 5 (v:= ?_) rfl ?v5 ?_
  case v5=>(intro w hSw;(try dsimp only at hSw);go_simp;try with_reducible rfl)
  try simp only[ao]
  refine aF 6 (v:= ?_) rfl ?v6 ?_
  case v6=>(intro w hSw;(try dsimp only at hSw);go_simp;try with_reducible rfl)
  try simp only[ao]
  refine aF 7 (v:= ?_) rfl ?v7 ?_
  case v7=>(intro w hSw;(try dsimp only at hSw);go_simp;try with_reducible rfl)
  try simp only[ao]
  refine aF 8 (v:= ?_) rfl ?v8 ?_
  case v8=>(intro w hSw;(try dsimp only at hSw);go_simp;try with_reducible rfl)
  try simp only[ao]
  refine aF 9 (v:= ?_) rfl ?v9 ?_
  case v9=>(intro w hSw;(try dsimp only at hSw);go_simp;try with_reducible rfl)
  try simp only[ao]
  refine aF 10 (v:= ?_) rfl ?v10 ?_
  case v10=>(intro w hSw;(try dsimp only at hSw);go_simp;try with_reducible rfl)
  try simp only[ao]
  refine wpAnyH_ready (rs:=[0,11]) (by kernel_rfl) (by simp) ?_
  refine AllReadyH.cons rfl (fun K hK=> ?_) (AllReadyH.cons rfl (fun K hK=> ?_) AllReadyH.nil)
  ·skip
   go_simp
   refine hK.out _ _ ?_ (fun hHeld=> ?_)
   ·first|exact hHeld|exact HA.out
   clear hK K
   try simp only[ao]
   refine bc 11 rfl (fun K hK=> ?_)
   go_simp
   refine hK.out _ _ ?_ (fun hHeld=> ?_)
   ·first|exact hHeld|exact HA.out
   clear hK K
   try simp only[ao]
   refine bc 12 rfl (fun K hK=> ?_)
   refine aK _ (by rfl) _ _ _ (by rfl) w.heap.size 60 i0 (.agg #[.int .i64 0,.int .u32 0]) 2 16 HU.out hi hz0 hz1 hz2 rfl (by omega) _ _ _ (by rfl) HL.out ⟨W.heap.size,0,none⟩ 1 1 [.int .i64 (x.val:Int),.int .u32 (G x.val:Int)] (by rfl) rfl HN.out (by simp[Value.oneCell']) (by unfold maxLen;omega) (by omega) (by simp;omega) ?_
   intro v' w1 hown' hgrow'
   obtain⟨g',cap',rfl⟩:=ownsRow_succ hown'
   have HX:=aa (HF.out _ _ hown' hgrow')
   have hc1:=HX.out.1
   have hf1:=HX.out.2.1
   refine hK.out _ _ ?_ (fun hHeld=> ?_)
   ·exact HX.out.2.2.1
   clear hK K
   try simp only[ao]
   refine bc 13 rfl (fun K hK=> ?_)
   go_simp
   refine hK.out _ _ ?_ (fun hHeld=> ?_)
   ·exact HX.out.2.2.2.1
   clear hK K
   try simp only[ao]
   refine wpAnyH_done (by kernel_rfl) ?_ _
   gi_wp2
   exact HX.out.2.2.2.2
  ·skip
   go_simp
   refine hK.out _ _ ?_ (fun hHeld=> ?_)
   ·first|exact hHeld|exact HA.out
   clear hK K
   try simp only[ao]
   refine bc 0 rfl (fun K hK=> ?_)
   go_simp
   refine hK.out _ _ ?_ (fun hHeld=> ?_)
   ·first|exact hHeld|exact HA.out
   clear hK K
   try simp only[ao]
   refine bc 12 rfl (fun K hK=> ?_)
   refine aK _ (by rfl) _ _ _ (by rfl) w.heap.size 60 i0 (.agg #[.int .i64 0,.int .u32 0]) 2 16 HU.out hi hz0 hz1 hz2 rfl (by omega) _ _ _ (by rfl) HL.out ⟨W.heap.size,0,none⟩ 1 1 [.int .i64 (x.val:Int),.int .u32 (G x.val:Int)] (by rfl) rfl HN.out (by simp[Value.oneCell']) (by unfold maxLen;omega) (by omega) (by simp;omega) ?_
   intro v' w1 hown' hgrow'
   obtain⟨g',cap',rfl⟩:=ownsRow_succ hown'
   have HX:=aa (HF.out _ _ hown' hgrow')
   have hc1:=HX.out.1
   have hf1:=HX.out.2.1
   refine hK.out _ _ ?_ (fun hHeld=> ?_)
   ·exact HX.out.2.2.1
   clear hK K
   try simp only[ao]
   refine bc 13 rfl (fun K hK=> ?_)
   go_simp
   refine hK.out _ _ ?_ (fun hHeld=> ?_)
   ·exact HX.out.2.2.2.1
   clear hK K
   try simp only[ao]
   refine wpAnyH_done (by kernel_rfl) ?_ _
   gi_wp2
   exact HX.out.2.2.2.2
 case done=>
  rintro D ys W hD rfl ⟨⟨⟨v,hv,hrow,_⟩,hbt⟩,hB⟩ hK
  have hc:=hv.cell
  gi_wp2
  refine⟨by simp,.inl ⟨_,_,rfl,run_takeDeferred hK,?_⟩⟩
  exact⟨_,results_tmp rfl _ _ _,v,rfl,ownsRow_putObj hrow _ hK rfl,hB.trans (belowK_b (w:=w) (Nat.le_refl _) W D _ _ (by simp at hD;omega) hK rfl rfl)⟩
 case stop=>
  rintro D c pre W _ _ h _
  exact h.elim
theorem Bo {w:World} {b g n:Nat} {G S:Nat→Nat} (hq:aJ w b g n G S):
  Calls Tryz.prog 80 #[.pointer (some ⟨b,0,none⟩)] w fun e W'=> ∃v,e= .returned v∧W'.ownsRow w.heap.size 60 2 v (pl S false n n).length (cm G (pl S false n n))∧Below w.heap.size w W':=
 callsIn_wide.1 (Ci b g n G S w hq)
theorem qK {β:Type} {B b g n:Nat} (G S:β→Nat→Nat) (hb:b<B) (hg:g<B):OwnFrom B (fun s W=>aJ W b g n (G s) (S s)):=fun s W W' row hs hgr hr=>
 hs.kept (hgr.block b hs.eF (fun e=>by have:=(hr b e.symm).1;omega)) (hgr.block g hs.eW (fun e=>by have:=(hr g e.symm).1;omega))
theorem tS {β:Type} {B:Nat} {X:Nat→Prop} {w:World} (hB:w.heap.size≤B):OwnFrom B (fun (_:β) W=>Fr X w W):=fun _ W W' row hs hgr hr=>
 ⟨hgr.os.trans hs.os,hgr.tape.trans hs.tape,hgr.output.trans hs.output,Nat.le_trans hs.size hgr.size,fun k hk hn=>(hgr.block k (Nat.lt_of_lt_of_le hk hs.size) (fun e=>by have:=(hr k e.symm).1;omega)).trans (hs.block k hk hn)⟩
theorem nj {X:Nat→Prop} {w W:World} {D:Nat} (o':Obj) (h:Fr X w W) (hD:w.heap.size≤D):Fr X w (W.putObj D o'):=by
 have hg:=grownBy_putObj' W D o'
 exact⟨hg.os.trans h.os,hg.tape.trans h.tape,hg.output.trans h.output,Nat.le_trans h.size hg.size,fun k hk hn=>(hg.block k (Nat.lt_of_lt_of_le hk h.size) (fun e=>by cases e;omega)).trans (h.block k hk hn)⟩
theorem Du {W:World} {b g n D:Nat} {G S:Nat→Nat} (o':Obj) (h:aJ W b g n G S) (hb:b≠D) (hg:g≠D):aJ (W.putObj D o') b g n G S:=by
 have hgr:=grownBy_putObj' W D o'
 exact h.kept (hgr.block b h.eF (fun e=>by cases e;exact hb rfl)) (hgr.block g h.eW (fun e=>by cases e;exact hg rfl))
structure qd (W:World) (s:Nat) (p q e:Int):Prop where
 c0:W.cell? ⟨s+1,0,none⟩=some (.int .i64 p)
 c1:W.cell? ⟨s+1,1,none⟩=some (.int .u32 q)
 c2:W.cell? ⟨s+1+1,0,none⟩=some (.int .i64 e)
 f0:W.frozen? ⟨s+1,0,none⟩=false
 f1:W.frozen? ⟨s+1,1,none⟩=false
 f2:W.frozen? ⟨s+1+1,0,none⟩=false
theorem qd.kept {W W':World} {row:Option Nat} {s:Nat} {p q e:Int} (h:qd W s p q e) (hg:W.grownBy W' row) (hr: ∀r,row=some r→ ∃o:Obj,W.heap[r]? =some o∧o.isCells=false):qd W' s p q e:=
 ⟨cell_kept h.c0 hg hr,cell_kept h.c1 hg hr,cell_kept h.c2 hg hr,(frozen_kept h.c0 hg hr).trans h.f0,(frozen_kept h.c1 hg hr).trans h.f1,(frozen_kept h.c2 hg hr).trans h.f2⟩
theorem qd.ka {W:World} {s g o:Nat} {p q e:Int} {v:Value} (h:qd W s p q e) (h1:g≠s+1) (h2:g≠s+1+1):qd (W.setCell ⟨g,o,none⟩ v) s p q e:=
 ⟨by rw[ab _ _ _ _ _ _ (by omega)];exact h.c0,by rw[ab _ _ _ _ _ _ (by omega)];exact h.c1,by rw[ab _ _ _ _ _ _ (by omega)];exact h.c2,by rw[World.frozen?_setCell];exact h.f0,by rw[World.frozen?_setCell];exact h.f1,by rw[World.frozen?_setCell];exact h.f2⟩
theorem qd.store {W:World} {s:Nat} {p q e:Int} (h:qd W s p q e) (p' q' e':Int):qd (((W.setCell ⟨s+1,0,none⟩ (.int .i64 p')).setCell ⟨s+1,1,none⟩ (.int .u32 q')).setCell ⟨s+1+1,0,none⟩ (.int .i64 e')) s p' q' e':=by
 refine⟨?_,?_,?_,?_,?_,?_⟩
 ·rw[ab _ _ _ _ _ _ (by omega),ab _ _ _ _ _ _ (by omega)];exact au _ _ _ _ h.c0
 ·rw[ab _ _ _ _ _ _ (by omega)];exact au _ _ _ _ (by rw[ab _ _ _ _ _ _ (by omega)];exact h.c1)
 ·exact au _ _ _ _ (by rw[ab _ _ _ _ _ _ (by omega),ab _ _ _ _ _ _ (by omega)];exact h.c2)
 ·rw[World.frozen?_setCell,World.frozen?_setCell,World.frozen?_setCell];exact h.f0
 ·rw[World.frozen?_setCell,World.frozen?_setCell,World.frozen?_setCell];exact h.f1
 ·rw[World.frozen?_setCell,World.frozen?_setCell,World.frozen?_setCell];exact h.f2
theorem Fr.tE {X:Nat→Prop} {w w':World} (h:Fr X w w') {a:Addr} (ha:w.heap.size≤a.block) (u:Value):Fr X w (w'.setCell a u):=
 ⟨h.os,h.tape,h.output,by simpa using h.size,fun k hk hn=>(Below.heap_setCell _ _ _ _ (by omega)).trans (h.block k hk hn)⟩
theorem aJ.ka {W:World} {b g n o k:Nat} {G S:Nat→Nat} {v:Value} (h:aJ W b g n G S) (h1:b≠k) (h2:g≠k):aJ (W.setCell ⟨k,o,none⟩ v) b g n G S:=
 h.kept (Below.heap_setCell _ _ _ _ (by simpa using h1)) (Below.heap_setCell _ _ _ _ (by simpa using h2))
theorem xX (b g n:Nat) (G S:Nat→Nat) (w:World) (hq:aJ w b g n G S) (hG: ∀x,x<n→G x+1<4294967296):
  CallsIn Fence.wide 4 Tryz.prog 95 #[.pointer (some ⟨b,0,none⟩)] w fun e W'=>
   (∃x:Fin n,[x]<+:pl S true n n∧e= .returned (.tuple #[.agg #[.int .i64 (x.val:Int),.int .u32 ((G x.val+1:Nat):Int)],.int .i64 0])∧aJ W' b g n (ax G x.val (G x.val+1)) (ax S x.val 1)∧Fr (fun k=>k=g) w W')∨
   (pl S true n n=[]∧e= .returned (.tuple #[.agg #[.int .i64 0,.int .u32 0],.int .i64 4])∧Below w.heap.size w W'):=by
 have hlb:=hq.eF
 have hlg:=hq.eW
 have hn:=hq.n2
 obtain⟨cp,hsl⟩:=hq.sl
 have HQ:=aa hq
 have HG:=aa hG
 clear hq hG
 refine callsIn_of_wp_marks Tryz.func95 rfl trivial ?_ rfl
 simp only[Tryz.ntmps95,List.size_toArray,List.length_cons,List.length_nil,Nat.reduceAdd,Nat.reduceSub,Array.replicate_succ,Array.replicate_zero,List.push_toArray,List.append_toArray,List.nil_append,List.cons_append]
 gi_wp2_with (refine⟨trivial,?_⟩;gi_at_call 110;refine(iG _ b true _).mono ?_;rintro e w' ⟨rfl,rfl⟩)
 have bT:=Boxed.new w 82 (.pointer (some ⟨b,0,none⟩))
 obtain⟨W0,hW0⟩: ∃W0,(((w.alloc (.cells #[.pointer (some ⟨b,0,none⟩)] 82)).alloc (.cells #[.int .i64 0,.int .u32 0] 60)).alloc (.cells #[.int .i64 0] 36))=W0:=⟨_,rfl⟩
 have hs0:W0.heap.size=w.heap.size+1+1+1:=by rw[←hW0];simp
 have hA0:qd W0 w.heap.size 0 0 0:=by
  rw[←hW0]
  have hw1:w.heap.size+1=(w.alloc (.cells #[.pointer (some ⟨b,0,none⟩)] 82)).heap.size:=by simp
  have hw2:w.heap.size+1+1=((w.alloc (.cells #[.pointer (some ⟨b,0,none⟩)] 82)).alloc (.cells #[.int .i64 0,.int .u32 0] 60)).heap.size:=by simp
  have hc: ∀k,(((w.alloc (.cells #[.pointer (some ⟨b,0,none⟩)] 82)).alloc (.cells #[.int .i64 0,.int .u32 0] 60)).alloc (.cells #[.int .i64 0] 36)).cell? ⟨w.heap.size+1,k,none⟩=(#[.int .i64 0,.int .u32 0]:Array Value)[k]? :=by
   intro k
   rw[World.cell?_alloc_lt _ _ _ (by simp),hw1,aA]
  have hf: ∀k,(((w.alloc (.cells #[.pointer (some ⟨b,0,none⟩)] 82)).alloc (.cells #[.int .i64 0,.int .u32 0] 60)).alloc (.cells #[.int .i64 0] 36)).frozen? ⟨w.heap.size+1,k,none⟩=false:=by
   intro k
   rw[show(((w.alloc (.cells #[.pointer (some ⟨b,0,none⟩)] 82)).alloc (.cells #[.int .i64 0,.int .u32 0] 60)).alloc (.cells #[.int .i64 0] 36)).frozen? ⟨w.heap.size+1,k,none⟩=((w.alloc (.cells #[.pointer (some ⟨b,0,none⟩)] 82)).alloc (.cells #[.int .i64 0,.int .u32 0] 60)).frozen? ⟨w.heap.size+1,k,none⟩ from World.frozen?_of_block (Below.heap_alloc _ _ _ (by simp)),hw1]
   exact aG _ _ _ _
  refine⟨by rw[hc];rfl,by rw[hc];rfl,by rw[hw2,aA];rfl,hf 0,hf 1,?_⟩
  rw[hw2];exact aG _ _ _ _
 have hT0:Boxed W0 w.heap.size 82 (.pointer (some ⟨b,0,none⟩)):=by rw[←hW0];exact(bT.alloc _).alloc _
 have hB00:Below w.heap.size w W0:=by rw[←hW0];exact(((Below.refl _ w).alloc (Nat.le_refl _) _).alloc (by simp) _).alloc (by simp;omega) _
 rw[hW0]
 have b1:=Boxed.new W0 82 (.pointer (some ⟨b,0,none⟩))
 have b2:=Boxed.new (W0.alloc (.cells #[.pointer (some ⟨b,0,none⟩)] 82)) 4 (.bool true)
 have hB0:Below w.heap.size w ((W0.alloc (.cells #[.pointer (some ⟨b,0,none⟩)] 82)).alloc (.cells #[.bool true] 4)):=(hB00.alloc (by omega) _).alloc (by simp;omega) _
 simp only[World.size_alloc,hs0] at b1 b2⊢
 refine wpIn_rangeFunc_ownG rfl (by decide) (gf:=152) (lb:= #[.pointer (some ⟨w.heap.size+1+1+1,0,none⟩),.pointer (some ⟨w.heap.size+1+1+1+1,0,none⟩)]) rfl trivial (enters_of Tryz.func152 (by kernel_rfl) rfl)
  (eQ 3 (by decide) (w.heap.size+1+1+1) (w.heap.size+1+1+1+1) w.heap.size b g n cp G S true _ (b1.alloc _) b2 ((hB0.cell (p:=⟨b,0,none⟩) hlb).trans hsl) (HQ.out.reads.below hB0 hlg) hn hlb hlg hB0.size) rE (zc hB0.size) (Below.refl _ _) (fun _=>rfl)
  (fun (pre:List (Fin n)) W=>((pre=[]∧qd W w.heap.size 0 0 0)∧Boxed W w.heap.size 82 (.pointer (some ⟨b,0,none⟩)))∧Below w.heap.size w W)
  (fun c (pre:List (Fin n)) W=> ∃x:Fin n,(c= .ret∧pre=[x])∧qd W w.heap.size (x.val:Int) ((G x.val+1:Nat):Int) 0∧aJ W b g n (ax G x.val (G x.val+1)) (ax S x.val 1)∧Fr (fun k=>k=g) w W)
  (OwnFrom.and (OwnFrom.and (fun _ _ _ _ hs hg hr=>⟨hs.1,hs.2.kept hg (fun r e=>(hr r e).2)⟩) (Own.from (boxed_own w.heap.size 82 (fun _:List (Fin n)=> .pointer (some ⟨b,0,none⟩))) _)) (ownFrom_below (Nat.le_refl _) hB0.size))
  (fun _ _ _ _ _ hs hg hr=>by
   obtain⟨x,h1,h2,h3,h4⟩:=hs
   exact⟨x,h1,h2.kept hg (fun r e=>(hr r e).2),qK (β:=Unit) (B:=((W0.alloc (.cells #[.pointer (some ⟨b,0,none⟩)] 82)).alloc (.cells #[.bool true] 4)).heap.size) (fun _=>ax G x.val (G x.val+1)) (fun _=>ax S x.val 1) (by simp;omega) (by simp;omega) () _ _ _ h3 hg hr,tS (β:=Unit) (X:=fun k=>k=g) (B:=((W0.alloc (.cells #[.pointer (some ⟨b,0,none⟩)] 82)).alloc (.cells #[.bool true] 4)).heap.size) (w:=w) hB0.size () _ _ _ h4 hg hr⟩)
  ⟨⟨⟨rfl,(hA0.kept (World.grownBy_alloc W0 _ none) (fun r e=>by cases e)).kept (World.grownBy_alloc _ _ none) (fun r e=>by cases e)⟩,(hT0.alloc _).alloc _⟩,hB0⟩
  (fun x=>{tmps:= #[.pointer (some ⟨b,0,none⟩),.pointer (some ⟨w.heap.size,0,none⟩),.pointer (some ⟨w.heap.size+1,0,none⟩),.pointer (some ⟨w.heap.size+1+1,0,none⟩),.int .i64 (x.val:Int),undef,.pointer (some ⟨b,0,none⟩),.bool false,undef,.pointer (some ⟨b,0,none⟩),.func (.func 152) #[] #[.pointer (some ⟨w.heap.size+1+1+1,0,none⟩),.pointer (some ⟨w.heap.size+1+1+1+1,0,none⟩)],.int .i64 (x.val:Int),undef,undef,undef,undef,undef,undef,undef,undef,undef,undef,undef,undef,undef,undef,undef,undef,undef,undef,undef,undef,undef],defers:=[]}) ?assign ?body ?done ?stop
 case assign=>
  intro l x W K hK
  gi_wp2
  exact hK
 case body=>
  rintro l pre x W ⟨⟨⟨hpre,hA⟩,hbt⟩,hB⟩ hlt
  subst hpre
  have hct:=hbt.cell
  have hxn:=x.isLt
  have hx1:=HG.out x.val hxn
  have hsl1:=(hB.cell (p:=⟨b,0,none⟩) hlb).trans hsl
  have hR:aJ W b g n G S:=HQ.out.below hB
  have hg1:=hR.gn x.val hxn
  have hg2:=hR.st x.val hxn
  have hfg:=hR.fg
  have HA:=aa hA
  obtain⟨a0,a1,a2,a3,a4,a5⟩:=hA
  have yg1: ¬g=w.heap.size:=by omega
  have yg2: ¬g=w.heap.size+1:=by omega
  have yg3: ¬g=w.heap.size+1+1:=by omega
  have yb: ¬b=g:=hR.bg
  have HB:=aa hB
  have HRR:=aa hR
  clear hB hR hbt HG
  gi_wp2
  have e:((G x.val:Int)+1)=((G x.val+1:Nat):Int):=by omega
  rw[e]
  refine⟨(((((KeepsOthers.setCell _ _ _).trans (KeepsOthers.setCell _ _ _)).trans (KeepsOthers.setCell _ _ _)).trans (KeepsOthers.setCell _ _ _)).trans (KeepsOthers.setCell _ _ _)).from _,x,⟨rfl,rfl⟩,((HA.out.ka yg2 yg3).ka yg2 yg3).store _ _ _,?_,?_⟩
  ·exact(((((HRR.out.Hb x.val hxn _).zz x.val hxn 1).ka (by omega) (by omega)).ka (by omega) (by omega)).ka (by omega) (by omega))
  ·exact(((((Fr.aE (S:=fun k=>k=g) HB.out).setCell (a:=⟨g,x.val*2,none⟩) rfl _).setCell (a:=⟨g,x.val*2+1,none⟩) rfl _).tE (a:=⟨w.heap.size+1,0,none⟩) (by simp) _).tE (a:=⟨w.heap.size+1,1,none⟩) (by simp) _).tE (a:=⟨w.heap.size+1+1,0,none⟩) (by simp;omega) _
 case done=>
  rintro D ys W hD rfl ⟨⟨⟨hpre,hA⟩,hbt⟩,hB⟩ hK
  have HA:=aa hA
  obtain⟨a0,a1,a2,a3,a4,a5⟩:=hA
  have HP:=aa hpre
  clear hpre
  gi_wp2
  have hK1:=(((KeepsOthers.setCell W ⟨w.heap.size+1,0,none⟩ (.int .i64 0)).trans (KeepsOthers.setCell _ ⟨w.heap.size+1,1,none⟩ (.int .u32 0))).trans (KeepsOthers.setCell _ ⟨w.heap.size+1+1,0,none⟩ (.int .i64 4))).same D _ hK rfl
  refine⟨by simp,.inl ⟨_,_,rfl,run_takeDeferred hK1,?_⟩⟩
  have hA5:=(HA.out.store 0 0 4).kept (grownBy_putObj' _ D (.deferred none)) (fun r e=>by cases e;exact⟨_,hK1,rfl⟩)
  have d0:=hA5.c0
  have d1:=hA5.c1
  have d2:=hA5.c2
  refine⟨.tuple #[.agg #[.int .i64 0,.int .u32 0],.int .i64 4],?_,.inr ⟨HP.out,rfl,((((hB.setCell (p:=⟨w.heap.size+1,0,none⟩) (by simp) _).setCell (p:=⟨w.heap.size+1,1,none⟩) (by simp) _).setCell (p:=⟨w.heap.size+1+1,0,none⟩) (by simp;omega) _).trans (belowK_b (w:=w) (Nat.le_refl _) _ D _ _ (by simp at hD;omega) hK1 rfl rfl))⟩⟩
  simp[results,Tryz.f95,go_sem,d0,d1,d2]
 case stop=>
  rintro D c pre W hD hsp ⟨x,⟨rfl,rfl⟩,hA,hR,hF⟩ hK
  have hDw:w.heap.size+1+1+1≤D:=by simp at hD;omega
  gi_wp2
  refine⟨by simp,.inl ⟨_,_,rfl,run_takeDeferred hK,?_⟩⟩
  have hA5:=hA.kept (grownBy_putObj' _ D (.deferred none)) (fun r e=>by cases e;exact⟨_,hK,rfl⟩)
  have d0:=hA5.c0
  have d1:=hA5.c1
  have d2:=hA5.c2
  refine⟨.tuple #[.agg #[.int .i64 (x.val:Int),.int .u32 ((G x.val+1:Nat):Int)],.int .i64 0],?_,.inl ⟨x,hsp,rfl,Du _ hR (by omega) (by omega),nj _ hF (by omega)⟩⟩
  simp[results,Tryz.f95,go_sem,d0,d1,d2]
end Go.Proofs.YtdbailcdlngemaaGreatDoor.Gt
namespace Go.Proofs.YtdbailcdlngemaaGreatDoor.Gt
open Go.RowKit Go.Lib Go.Deep Go.ChangeShapes Go.WideShapes
theorem Gv : Tryz.prog.globalNamed "boatswain/gtab.follows" = some 0 := by kernel_rfl
theorem Ao:(Tryz.prog.globals[0]?).map (·.type)=some 288:=by kernel_rfl
theorem cellsIn:Tryz.prog.cellsOf 287=5:=by kernel_rfl
theorem vU:Tryz.prog.cellsOf 4=1:=by kernel_rfl
theorem Bz {H:Type}:(Rows.laid_boatswain_gtab_follows:DataW H)= .agg ((List.range 5).map fun i=> .agg ((List.range 5).map fun j=> .lit (.bool (DJ i j)))):=rfl
theorem kZ {W : World} (h : laidMetH Tryz.prog [("boatswain/gtab.follows", Rows.laid_boatswain_gtab_follows)] W) : ju W := by
 have h' : laidMet Tryz.prog [("boatswain/gtab.follows", Rows.laid_boatswain_gtab_follows)] W := h
 obtain⟨ps,⟨g',t',cs,fuel,p,q,hg',ht',hvar,hd,_,_⟩,_⟩:=h'
 obtain rfl:=Option.some.inj (Gv.symm.trans hg')
 obtain rfl:=Option.some.inj (Ao.symm.trans ht')
 obtain⟨xs,m,_,hx,_,hlen,ja⟩:=DataW.trod_array Tryz.underlying288 hd
 simp only[Prod.mk.injEq] at hx
 have hx1:=hx.1
 rw[Bz] at hx1
 simp only[DataW.agg.injEq] at hx1
 intro i j hi hj
 obtain⟨xi,hxi⟩: ∃xi,xs[i]? =some xi:=⟨xs[i]'(by omega),List.getElem?_eq_getElem (by omega)⟩
 have e1:=ja i hi
 rw[hxi,cellsIn] at e1
 obtain⟨ys,m2,_,hy,_,hlen2,hel2⟩:=DataW.trod_array Tryz.underlying287 e1
 obtain⟨yj,hyj⟩: ∃yj,ys[j]? =some yj:=⟨ys[j]'(by omega),List.getElem?_eq_getElem (by omega)⟩
 have e2:=hel2 j hj
 rw[hyj,vU] at e2
 obtain⟨bb,hb,hyv⟩:=DataW.trod_bool Tryz.underlying4 e2
 have q1:(xs.map (·.1))[i]? =some xi.1:=by rw[List.getElem?_map,hxi];rfl
 rw[←hx1] at q1
 have q2:xi.1= .agg ((List.range 5).map fun j=> .lit (.bool (DJ i j))):=by
  have:((List.range 5).map fun i=>(DataW.agg ((List.range 5).map fun j=> .lit (.bool (DJ i j))):DataW Unit))[i]? =some (.agg ((List.range 5).map fun j=> .lit (.bool (DJ i j)))):=by
   rw[List.getElem?_map,List.getElem?_range hi];rfl
  rw[this] at q1
  exact(Option.some.inj q1).symm
 rw[hy] at q2
 simp only[DataW.agg.injEq] at q2
 have q3:(ys.map (·.1))[j]? =some yj.1:=by rw[List.getElem?_map,hyj];rfl
 rw[q2,List.getElem?_map,List.getElem?_range hj,hyv] at q3
 simp only[Option.map_some,Option.some.injEq,DataW.lit.injEq,Lit.bool.injEq] at q3
 have hc:cs.toList[i*5+j]? =some (.bool bb):=by
  have:=congrArg (·[0]?) hb
  simp only[List.getElem?_take,List.getElem?_drop] at this
  simpa [hj] using this
 have:=World.var?_cell Gv hvar (i*5+j)
 rw[this,q3,←hc]
 simp
section
variable {H:Type} {enc:TypeId×Value→H} {w:World} {base:Nat} {spare:Nat→Bool} {held:Bool}
end
end Go.Proofs.YtdbailcdlngemaaGreatDoor.Gt

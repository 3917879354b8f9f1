/- YtdbailcdlngemaaGreatDoorGt: of the texts Ba36 Ba37 Ba38 Ba39 Bf1 Bf2 Bf3 Bf4 Bf5 Bf6 Bf7 Ba40 what is wanted. -/
import Derived.Test.YtdbailcdlngemaaGreatDoorGq
import Derived.Deep.Cut
import Derived.Deep.DeepCutAuto
import Derived.Maps.AppendAt
set_option maxHeartbeats 16000000
set_option maxRecDepth 100000
set_option linter.unusedVariables false
set_option linter.unusedSimpArgs false
namespace Go.Proofs.YtdbailcdlngemaaGreatDoor
open Go.RowKit Go.Lib Go.Shelf
attribute [local go_sem ↓] Go.wp_at_zero Go.wp_at_succ
def mP (w w':World) (lab:Nat→Nat) (a:Ad) (P n q T:Nat) (M:Mc) (v:Value):Prop:= ∃lab',aD w' lab' a P n q T M∧oO w w' lab lab'∧Fr (fun k=>lab k≠0) w w'∧ ∀k,v.ownBlock=some k→lab' k=0
section
variable {w W W':World} {lab labk:Nat→Nat} {a:Ad} {P n q T T':Nat} {M M':Mc} {sb pr:Nat} {l:List Ev} {O O0:Nat→Prop} {W0:World}
theorem SX.Hq (h:SX w W0 W lab a P n q T M sb pr l O0): ∃v,W.cell? ⟨sb,3,none⟩=some v∧gL W w.heap.size v l∧mP w W lab a P n q T M v:=by
 obtain⟨k,v,s⟩:=h.sp
 exact⟨v,s.c3,s.hv,k,s.at_.i,s.at_.l,s.at_.f,fun k hk=>(s.hk k hk).1⟩
theorem aD.zR (h:aD w lab a P n q T M) (hp:pr<P) (d:Int) (hT:T'+n≤1000000000)
  (hact: ∀W1 O,SG w W1 lab a P n q T M w.heap.size pr [] O→Calls Tryz.prog 53 #[.pointer (some ⟨w.heap.size,0,none⟩),.int .u64 d] W1 fun e w'=>e= .returned (.tuple #[])∧SX w W1 w' lab a P n q T' M' w.heap.size pr l O):
  Calls Tryz.prog 34 #[.pointer (some ⟨a.m,0,none⟩),.int .i64 (pr:Int),.int .u64 d] w fun e w'=> ∃v,e= .returned (.tuple #[v,.int .i64 0])∧gL w' w.heap.size v l∧mP w w' lab a P n q (T'+n) (Go.Proofs.YtdbailcdlngemaaGreatDoor.settle M' n) v:=by
 have HP:=aa (h.CD (pr:Int))
 have hyes:uT P (pr:Int)=true:=by unfold uT;simp;omega
 rw[hyes] at HP
 have c3:=h.co.c3
 have hpi:(pr:Int)<(P:Int):=by omega
 obtain⟨O,hs⟩:=SG.start h pr
 have HA:=aa (hact _ O hs)
 generalize hW:w.alloc (.cells #[.pointer (some ⟨a.m,0,none⟩),.int .i64 (pr:Int),.pointer (some ⟨a.pr,pr*3,none⟩),.slice none 0 0] 160)=W1 at*
 have HW:=aa hW
 have HST:Hid (∀V,SX w W1 V lab a P n q T' M' w.heap.size pr l O→Calls Tryz.prog 54 #[.pointer (some ⟨a.m,0,none⟩)] V fun e w'=>e= .returned (.tuple #[])∧SX w W1 w' lab a P n q (T'+n) (Go.Proofs.YtdbailcdlngemaaGreatDoor.settle M' n) w.heap.size pr l O):=fun V h=>h.lift (R:=fun e=>e= .returned (.tuple #[])) fun _ i=>i.settle hT
 have hbt:=fun w=>Cu ⟨a.m,0,none⟩ ⟨a.pr,pr*3,none⟩ (pr:Int) w
 clear h hs hW hact
 go_enter Tryz.func34,Tryz.ntmps34
 go_upto_region 6 with (first
  |(go_at_call 52;refine(HP.out).mono ?_;rintro e w1 ⟨rfl,hw⟩;replace hw:=hw.symm;subst hw))
 rw[HW.out]
 go_upto_region 8 with (first
  |(go_at_call 53;refine(HA.out).mono ?_;rintro e w2 ⟨rfl,hg⟩;have HG2:=aa hg;clear hg)
  |(go_at_call 54;refine(HST.out _ HG2.out).mono ?_;rintro e w3 ⟨rfl,hg⟩;have HG3:=aa hg;clear hg))
 obtain⟨v,z3,hev,hgo⟩:=HG3.out.Hq
 obtain⟨ad,cap,rfl⟩:=Cb.aH hev
 have HE:=aa (And.intro hev hgo)
 clear hev hgo
 go_wp2
 go_ret2
 exact⟨_,rfl,HE.out.1,HE.out.2⟩
end
section
variable {w W W':World} {lab labk:Nat→Nat} {a:Ad} {P n q T T':Nat} {M M':Mc}
theorem ay.GI {w':World} (h:ay w w' lab a P n q T M) (o:Obj):mP w (w'.alloc o) lab a P n q T M (.slice (some ⟨w'.heap.size,0,none⟩) 1 1):=by
 obtain⟨lab',hi,hl,hf⟩:=h
 have hb:Below w'.heap.size w' (w'.alloc o):=(Below.refl _ _).alloc (Nat.le_refl _) _
 have hi2:=hi.below hb
 have hf2:Fr (fun k=>lab k≠0) w (w'.alloc o):=hf.then (dh (S:=fun _=>False) hb) (fun _ _ q=>q.elim)
 refine⟨lab',hi2,⟨hl.old,hi2.lt⟩,hf2,fun k hk=> ?_⟩
 have:w'.heap.size=k:=by simpa [Value.ownBlock] using hk
 exact hi.fresh (by omega)
theorem aD.sR (h:aD w lab a P n q T M) (hT:T+n+1+n≤1000000000) (hG:G4 M n) (pg:Int) (lv:Nat) (hlv:lv<256) (sv:Int) (hno:jX M pg sv=false) (x:Nat) (hf:db M n=some x):
  Calls Tryz.prog 38 #[.pointer (some ⟨a.m,0,none⟩),.int .i64 pg,.int .u8 (lv:Int),.int .i64 sv] w fun e w'=> ∃v,e= .returned (.tuple #[v,.int .i64 0])∧gL w' w.heap.size v [⟨9,0,(x:Int),M.G x+1,pg,0⟩]∧mP w w' lab a P n q (T+n+1+n) (gB P n q M x pg lv sv) v:=by
 have HP:=aa (h.B6 pg)
 have HL:=aa h.Ha
 obtain⟨g,hg⟩: ∃g,M.G x+1=g:=⟨_,rfl⟩
 have HB:Hid (Calls Tryz.prog 61 #[.pointer (some ⟨a.m,0,none⟩),.int .i64 0,.agg #[.int .i64 0,.int .u32 0,.int .i64 pg,.int .u8 (lv:Int),.int .u8 0,.int .i64 sv,.int .i64 0,.int .i64 0,.int .i64 0,.int .u64 0]] w fun e w'=>e= .returned (.tuple #[.agg #[.int .i64 9,.int .i64 0,.int .i64 (x:Int),.int .u32 (g:Int),.int .i64 pg,.int .i64 0],.int .i64 0])∧ay w w' lab a P n q (T+n+1) (fH P n q M x 0 (dJ pg lv sv))):=by
  have:=h.wY (by omega) hG 0 (dJ pg lv sv) (AH pg lv sv hlv) x hf
  rw[hg] at this
  exact this
 have c6:=h.co.c6
 have hz:=h.t0.pos
 have HST:Hid (∀W lab1,At w W lab lab1 a P n q (T+n+1) (fH P n q M x 0 (dJ pg lv sv))→ ∀b,lab1 b=0→kA W b ⟨9,0,(x:Int),g,pg,0⟩→Calls Tryz.prog 54 #[.pointer (some ⟨a.m,0,none⟩)] W fun e w'=>e= .returned (.tuple #[])∧ay w w' lab a P n q (T+n+1+n) (gB P n q M x pg lv sv)∧kA w' b ⟨9,0,(x:Int),g,pg,0⟩):=fun W lab1 A b hb he=>by
  refine(A.i.settle hT).mono ?_
  rintro e w' ⟨rfl,hgo⟩
  obtain⟨lab2,A2,ho,hfr⟩:=A.step hgo
  exact⟨rfl,A2.goes,he.kept (hfr.box hb he.lt)⟩
 unfold jX at hno
 clear h
 generalize M.sv.length=len at*
 have hp:je M pg=true:=by cases e:je M pg<;>simp[e] at hno⊢
 have h1: ¬sv< -1:=by intro e;simp[e] at hno
 have h2: ¬(len:Int)≤sv:=by intro e;simp[e] at hno
 have d1:decide (sv< -1)=false:=decide_eq_false h1
 have d2:decide ((len:Int)≤sv)=false:=decide_eq_false h2
 rw[hp] at HP
 have hbt:=fun w=>Bu pg (lv:Int) sv w
 rw[hg]
 go_enter Tryz.func38,Tryz.ntmps38
 go_upto_region 8 with (first
  |(go_at_call 59;refine(HP.out).mono ?_;rintro e w1 ⟨rfl,hw⟩;replace hw:=hw.symm;subst hw)
  |(go_at_call 60;refine(HL.out).mono ?_;rintro e w1 ⟨rfl,hw⟩;replace hw:=hw.symm;subst hw)
  |(go_at_call 61;refine(HB.out).mono ?_;rintro e w1 ⟨rfl,hb⟩;have HB1:=aa hb;clear hb))
 obtain⟨lab1,A1⟩:=HB1.out.open hz
 have A2:=A1.new (.cells #[.int .i64 9,.int .i64 0,.int .i64 (x:Int),.int .u32 (g:Int),.int .i64 pg,.int .i64 0] 62)
 have hl:=A1.fresh (Nat.le_refl _)
 have he:kA (w1.alloc (.cells #[.int .i64 9,.int .i64 0,.int .i64 (x:Int),.int .u32 (g:Int),.int .i64 pg,.int .i64 0] 62)) w1.heap.size ⟨9,0,(x:Int),g,pg,0⟩:=⟨aV _ _ _ 0 _ rfl,aV _ _ _ 1 _ rfl,aV _ _ _ 2 _ rfl,aV _ _ _ 3 _ rfl,aV _ _ _ 4 _ rfl,aV _ _ _ 5 _ rfl,fun o=>Gt.aG _ _ _ _⟩
 generalize w1.alloc (.cells #[.int .i64 9,.int .i64 0,.int .i64 (x:Int),.int .u32 (g:Int),.int .i64 pg,.int .i64 0] 62)=W1 at*
 have HS1:=aa (HST.out W1 lab1 A2 w1.heap.size hl he)
 clear HST A1 A2 hl he HB1 HB HP HL
 go_wp2_with (first
  |(go_at_call 54;refine(HS1.out).mono ?_;rintro e w2 ⟨rfl,hgo,⟨e0,e1,e2,e3,e4,e5,ef⟩⟩;have HG2:=aa hgo;clear hgo))
 go_ret2
 exact⟨_,rfl,gL.one w2 w.heap.size HG2.out.size ⟨9,0,(x:Int),g,pg,0⟩,HG2.out.GI _⟩
end
def pN (w wr:World) (ad:Ad) (P n q T:Nat) (M:Mc) (K:Nat→Prop):Prop:=(∃lab,aD wr lab ad P n q T M∧(∀k,lab k≠0→w.heap.size≤k)∧ ∀k,K k→lab k=0∧k<wr.heap.size)∧Below w.heap.size w wr
section
variable {w wr w':World} {ad:Ad} {P n q T T':Nat} {M M':Mc} {K:Nat→Prop}
theorem pN.F1 (h:pN w wr ad P n q T M K) {lab:Nat→Nat} (h1: ∀k,lab k≠0→w.heap.size≤k) (h2: ∀k,K k→lab k=0∧k<wr.heap.size) {v:Value} {base:Nat} {l:List Ev} (g:mP wr w' lab ad P n q T' M' v) (hv:gL w' base v l):pN w w' ad P n q T' M' (fun k=>K k∨v.ownBlock=some k)∧ ∀k,K k→w'.heap[k]? =wr.heap[k]? :=by
 obtain⟨_,hb⟩:=h
 obtain⟨lab',hi',hl,hf,hz⟩:=g
 refine⟨⟨⟨lab',hi',fun k hk=> ?_,fun k hk=> ?_⟩,hb.trans ⟨hf.os,hf.tape,hf.output,hf.size,fun k hk=>hf.block k (Nat.lt_of_lt_of_le hk hb.size) (fun q=>by have:=h1 k q;omega)⟩⟩,fun k hk=>hf.block k (h2 k hk).2 (fun q=>q (h2 k hk).1)⟩
 ·rcases Nat.lt_or_ge k wr.heap.size with q|q
  ·exact h1 k (by rw[←hl.old k q];exact hk)
  ·exact Nat.le_trans hb.size q
 ·rcases hk with hk|hk
  ·exact⟨(hl.old k (h2 k hk).2).trans (h2 k hk).1,Nat.lt_of_lt_of_le (h2 k hk).2 hf.size⟩
  ·exact⟨hz k hk,(hv.lt hk).1⟩
theorem pN.call (h:pN w wr ad P n q T M K) {f:Nat} {args:Array Value} {R:Ending→World→Value→Prop} {base:Nat} {l:List Ev} (hc: ∀lab,aD wr lab ad P n q T M→Calls Tryz.prog f args wr fun e w'=> ∃v,R e w' v∧gL w' base v l∧mP wr w' lab ad P n q T' M' v):Calls Tryz.prog f args wr fun e w'=> ∃v,R e w' v∧gL w' base v l∧pN w w' ad P n q T' M' (fun k=>K k∨v.ownBlock=some k)∧ ∀k,K k→w'.heap[k]? =wr.heap[k]? :=by
 have h0:=h
 obtain⟨⟨lab,hi,h1,h2⟩,hb⟩:=h
 exact(hc lab hi).mono (fun e w' ⟨v,r,ev,g⟩=>⟨v,r,ev,h0.F1 h1 h2 g ev⟩)
theorem pN.pq (h:pN w wr ad P n q T M K): ∃O,PQ wr O ad.pb n P q T M.pl:=by
 obtain⟨⟨lab,hi,hl⟩,hb⟩:=h
 obtain⟨O,p,_⟩:=hi.pl
 exact⟨O,p⟩
theorem pN.eI (h:pN w wr ad P n q T M K):Below w.heap.size w wr:=h.2
end
end Go.Proofs.YtdbailcdlngemaaGreatDoor

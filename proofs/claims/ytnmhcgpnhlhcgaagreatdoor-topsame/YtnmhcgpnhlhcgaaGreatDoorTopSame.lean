/-
  For all levels and every row of numbers TopSame answers true:a script that is run from its bytes tells what the machine tells when its entries are done by hand. The package variable gtab.follows holds what the program's text lays (the card ties it).
-/
import Derived.Test.YtnmhcgpnhlhcgaaGreatDoorCards
import Derived.Test.YtnmhcgpnhlhcgaaGreatDoorTie
import Derived.Test.YtnmhcgpnhlhcgaaGreatDoorKy1
import Derived.Test.YtnmhcgpnhlhcgaaGreatDoorKy2
import Derived.Test.YtnmhcgpnhlhcgaaGreatDoorKy3
import Derived.Test.YtnmhcgpnhlhcgaaGreatDoorKy4
import Derived.WalkKit
import Derived.ProofKit
import Derived.OpenShut
import Derived.RowKit3
import Derived.ChangeOld
import Derived.Below
import Derived.Carry
import Derived.Deep.DeepHandedRow
import Derived.Lib.SmallJoins
namespace Go.Proofs.YtnmhcgpnhlhcgaaGreatDoor.topSame
open Go.ChangeShapes Go.WideShapes Go.ChangeAt Go.RowKit
set_option linter.unusedVariables false

theorem own:ownKnob Tryz.prog.godebug=none:=by kernel_rfl
theorem laidOut:laidOutB Tryz.prog=true:=by kernel_rfl
open Go.Lib

set_option maxHeartbeats 1000000 in
theorem walk (a0:Option Addr) (len0 cap0:Nat) (D0:Nat→Nat) (a1:Option Addr) (len1 cap1:Nat) (D1:Nat→Nat) (w:World) (ht:Gt.pv w) (n0:len0<9223372036854775808) (w0:Qj w a0 len0 D0) (n1:len1<9223372036854775808) (w1:Qj w a1 len1 D1):
    Calls Tryz.prog 9 #[.slice a0 len0 cap0,.slice a1 len1 cap1] w fun e w'=>e= .returned (.bool true)∧Below w.heap.size w w':=by
  by_cases h:4<len0
  · by_cases k:40<len1
    ·exact TsA a0 len0 cap0 D0 a1 len1 cap1 D1 w w0 w1 n0 n1 ht h k
    ·exact TsB a0 len0 cap0 D0 a1 len1 cap1 D1 w w0 w1 n0 n1 ht h k
  · by_cases k:40<len1
    ·exact TsC a0 len0 cap0 D0 a1 len1 cap1 D1 w w0 w1 n0 n1 ht h k
    ·exact TsD a0 len0 cap0 D0 a1 len1 cap1 D1 w w0 w1 n0 n1 ht h k

set_option maxHeartbeats 1000000 in
set_option maxRecDepth 100000 in
theorem contract (H:Type) (enc:TypeId×Value→H) (W:World) (base:Nat) (args:Array Value) (ds gs:List (DataW H)) (before:List MemPlace)
    (hval: ∀(j:Nat) t v,Tryz.f9.params[j]? =some t→args[j]? =some v→Value.okWide Tryz.prog W .any base t v)
    (hW:DataW.Whole enc Tryz.prog Tryz.f9.params.toList Rows.topSameSpec.vars false W args.toList ds gs before) (hL:laidMetH Tryz.prog Rows.topSameRow.laid W):
    Calls Tryz.prog 9 args W fun e W'=> ∃v,e= .returned v∧Rows.topSameSpec.post enc Tryz.prog Tryz.f9 false true false false W args v W':=by
  have hW':=hW
  obtain⟨p,q,hA0,hV,rfl,hfz,hnd⟩:=hW
  have hA:DataW.TrodAll enc Tryz.prog W 0 (fun _=>true) true Tryz.f9.params.toList args.toList ds p:=hA0
  rw[Tryz.params9] at hA hval
  obtain⟨v0,vs0,d0,ds0,p0',q0',hargs,rfl,rfl,h0,r0⟩:=trodAll_cons hA
  obtain⟨v1,vs1,d1,ds1,p1',q1',rfl,rfl,rfl,h1,r1⟩:=trodAll_cons r0
  obtain⟨rfl,rfl,rfl⟩:=trodAll_nil r1
  obtain rfl:args= #[v0,v1]:=by cases args;simp_all
  obtain⟨rfl,rfl⟩:=trodVars_none hV
  have kk0:=h0
  have lt0: ∀x∈p0',x.block<W.heap.size:=by obtain⟨m,hm⟩:=kk0;exact DataW.trod_lt m _ _ _ hm
  obtain⟨a0,len0,cap0,rfl⟩:=okWide_slice Tryz.underlying51 (hval 0 51 v0 rfl rfl)
  obtain⟨n0,D0,w0⟩:len0<9223372036854775808∧ ∃D:Nat→Nat,Qj W a0 len0 D:=by
    obtain⟨fuel,hf⟩:=h0
    obtain⟨q1,_,_,q2⟩:=Gu hf
    exact⟨q1,q2⟩
  have kk1:=h1
  have lt1: ∀x∈p1',x.block<W.heap.size:=by obtain⟨m,hm⟩:=kk1;exact DataW.trod_lt m _ _ _ hm
  obtain⟨a1,len1,cap1,rfl⟩:=okWide_slice Tryz.underlying51 (hval 1 51 v1 rfl rfl)
  obtain⟨n1,D1,w1⟩:len1<9223372036854775808∧ ∃D:Nat→Nat,Qj W a1 len1 D:=by
    obtain⟨fuel,hf⟩:=h1
    obtain⟨q1,_,_,q2⟩:=Gu hf
    exact⟨q1,q2⟩
  clear hA0
  refine(walk a0 len0 cap0 D0 a1 len1 cap1 D1 W (Gt.vm hL) n0 w0 n1 w1).mono fun e W' ⟨he,jC⟩=> ?_
  subst he
  exact⟨_,rfl,_,_,_,[],_,[],hW',trodAll_mk1 (shut_bool Tryz.underlying4 _),(trodAll_cons_mk (Below.trod laidOut (by kernel_rfl) (of_decide_eq_true (by kernel_rfl)) kk0 jC lt0) (trodAll_cons_mk (Below.trod laidOut (by kernel_rfl) (of_decide_eq_true (by kernel_rfl)) kk1 jC lt1) trodAll_mk0)),rfl,jC.frame _,fun h=>by cases h⟩

/-- A world for the witness: the table holds what its initialiser lays. -/
noncomputable def laidWorld (os:Os):World:=
  {World.holding Tryz.prog os ⟨#[],#[],[]⟩ with heap:=(World.holding Tryz.prog os ⟨#[],#[],[]⟩).heap.modify 0 fun
      | .cells _ t frozen=> .cells #[.bool false,.bool false,.bool false,.bool false,.bool false,.bool false,.bool false,.bool true,.bool false,.bool false,.bool false,.bool true,.bool false,.bool true,.bool true,.bool false,.bool true,.bool false,.bool false,.bool false,.bool false,.bool true,.bool false,.bool false,.bool false] t frozen
      |o=>o}
theorem laid_met (os:Os):laidMet Tryz.prog Rows.topSameRow.laid ((laidWorld os).forCall (fun _ _=>0) ⟨#[],#[.slice none 0 0,.slice none 0 0],[]⟩).memory:=
  laidMet_of_run' 8 (by kernel_rfl) (by kernel_rfl)
theorem reads (os:Os) {H:Type} (enc:TypeId×Value→H): ∃places,DataW.whole enc Tryz.prog ((laidWorld os).forCall (fun _ _=>0) ⟨#[],#[.slice none 0 0,.slice none 0 0],[]⟩).memory Tryz.f9.params.toList Rows.topSameSpec.vars false (#[.slice none 0 0,.slice none 0 0]:Array Value).toList 8=some ([.nil,.nil],[],places):=
  ⟨[],by kernel_rfl⟩

set_option maxRecDepth 100000 in
theorem lifted (os:Os) (started:os.Started) (H:Type) (enc:TypeId×Value→H) (F:Stop.Interp):
    ReturnsInHanded {} Tryz.checked os 9 .any ((OpenSpec.ofChange Rows.topSameSpec).preRow enc Tryz.prog Tryz.f9 Rows.topSameRow.domain false Rows.topSameRow.laid) (((OpenSpec.ofChange Rows.topSameSpec).at F).post enc Tryz.prog Tryz.f9 false true false false):=by
  obtain⟨places,hx⟩:=reads os enc
  refine returnsInHanded_of_row (C:=Tryz.checked) (s:=OpenSpec.ofChange Rows.topSameSpec) own started (by kernel_rfl) Tryz.func9
    (witness_row_at (enc:=enc) (C:=Tryz.checked) false (laidWorld os) #[.slice none 0 0,.slice none 0 0] rfl (by kernel_rfl) (by kernel_rfl) (by kernel_rfl)
      (OpenSpec.preRow_of_cond 8 hx (by kernel_rfl) (fun k hk=>by cases hk) (by kernel_rfl) (laid_met os))) ?_
  intro W base args ds gs before hval hW _ _ _ hL _ _
  exact contract H enc W base args ds gs before hval hW hL

theorem said:Rows.TopSameSaid:=
  OpenClaim.holds_of_cond 9 Tryz.f9 rfl rfl rfl rfl rfl rfl rfl ⟨rfl,rfl,rfl,rfl,rfl⟩ rfl rfl rfl rfl rfl (by kernel_rfl) Tryz.func9 (by kernel_rfl)
    (of_decide_eq_true (by kernel_rfl)) (by unfold Func.isWrapper;first|(rw[if_pos (by decide+kernel)];kernel_rfl)|(rw[if_neg (by decide+kernel)];exact⟨rfl,rfl⟩))
    (fun os started H enc _ F=>by rw[OpenClaim.pre_eq_preRow];exact lifted os started H enc F)

theorem plain (f : FuncId) (fn : Func) (hf : Tryz.pinned.checked.prog.funcNamed "boatswain/boatswaintop.TopSame" = some f) (hfn : Tryz.pinned.checked.prog.funcs[f]? = some fn) :
    true=Tryz.pinned.checked.prog.looks []∧ ∀(j:Nat) t,fn.params[j]? =some t→Tryz.pinned.checked.prog.wantsStandIn t=false:=by
  obtain rfl : f = 9 := Option.some.inj ((show Tryz.prog.funcNamed "boatswain/boatswaintop.TopSame" = some 9 by kernel_rfl).symm.trans hf) |>.symm
  obtain rfl:fn=Tryz.f9:=(Option.some.inj (Tryz.func9.symm.trans hfn)).symm
  refine⟨by kernel_rfl,fun j t ht=> ?_⟩
  rw[Tryz.params9] at ht
  have hm:t∈[51,51]:=by simpa using Array.mem_of_getElem? ht
  have hall:([51,51].all fun u=> !Tryz.prog.wantsStandIn u)=true:=by kernel_rfl
  exact(show Tryz.prog.wantsStandIn t=false by simpa using List.all_eq_true.1 hall t hm)
end Go.Proofs.YtnmhcgpnhlhcgaaGreatDoor.topSame
namespace Go.Proofs.YtnmhcgpnhlhcgaaGreatDoor
/-- The statement: the card. -/
theorem topSame_holds:Rows.TopSameCardSaid:=
  Claim7.holds_tied_plain_at .later [] _ _ _ _ topSame.said (fun _ h=>by cases h) (by kernel_rfl) (fun _ h=>by cases h) topSame_row_tie rfl ⟨rfl,rfl⟩ (by kernel_rfl) rfl topSame.plain (by kernel_rfl)
#print axioms topSame_holds
end Go.Proofs.YtnmhcgpnhlhcgaaGreatDoor

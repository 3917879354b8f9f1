/- YtdbailcdlngemaaGreatDoorHb: of the texts Mp Mh X0 X1 X2 X3 X4 X5 X6 Mi Me Y1 Y2 Y3 Y4 Y5 Y6 Y8 Y9 Y10 Y12 Y13 Y14 what is wanted. -/
import Derived.Test.YtdbailcdlngemaaGreatDoorRows
import Derived.WalkKit
import Derived.Below
import Derived.WalkSpells
import Derived.WalkLawsBesides
import Derived.StillTactics
import Derived.RegionTactic
import Derived.RowKit3
import Derived.Laws.MakeOwn
import Derived.OwnWalk
import Derived.Deep.QuietTactic
import Derived.BigQuiet
import Derived.Deep.RegionHeld3
import Derived.Deep.DrawnRows
import Derived.Lib.SmallJoins
import Derived.WalkMore
import Derived.Test.YtdbailcdlngemaaGreatDoorHa
import Derived.Laws.OwnMore
import Derived.Maps.AppendAt
import Derived.Deep.AppendLies
import Derived.OneCell
import Derived.Deep.MidRow
import Derived.RangeFuncNested
import Derived.RangeFuncBound
import Derived.RangeFuncCalls
import Derived.RangeFuncLeaves
import Derived.RangeFuncBox
import Derived.Shelf.Abstract
import Derived.Shelf.RegionOpen
import Derived.OwnWalkIn
import Derived.TacticsInMore
import Derived.LoopNIn
import Derived.LoopIn
set_option maxHeartbeats 16000000
set_option maxRecDepth 100000
set_option linter.unusedVariables false
set_option linter.unusedSimpArgs false
namespace Go.Proofs.YtdbailcdlngemaaGreatDoor.Ph
open Go.RowKit
theorem aa {p:Prop} (h:p):Hid p:=h
def aw {α:Type} (f:Nat→α) (i:Nat) (x:α):Nat→α:=fun j=>if j=i then x else f j
theorem aj {α:Type} (f:Nat→α) (i:Nat) (x:α):aw f i x i=x:=by simp[aw]
theorem af {α:Type} (f:Nat→α) (i:Nat) (x:α) (j:Nat) (h:j≠i):aw f i x j=f j:=by simp[aw,h]
theorem au (w:World) (a:Addr) (x u:Value) (h:w.cell? a=some u):(w.setCell a x).cell? a=some x:=World.cell?_setCell_same _ _ _ h
theorem ab (w:World) (b o b' o':Nat) (x:Value) (h: ¬(b=b'∧o=o')):(w.setCell ⟨b,o,none⟩ x).cell? ⟨b',o',none⟩=w.cell? ⟨b',o',none⟩:=
 World.cell?_setCell_other _ _ _ _ (by intro e;simp only[Addr.mk.injEq,and_true] at e;exact h e)
structure aQ (b g:Nat) (w w':World):Prop where
 os:w'.os=w.os
 tape:w'.tape=w.tape
 output:w'.output=w.output
 size:w.heap.size≤w'.heap.size
 block: ∀k,k<w.heap.size→k≠b→k≠g→w'.heap[k]? =w.heap[k]?
theorem aQ.refl (b g:Nat) (w:World):aQ b g w w:=⟨rfl,rfl,rfl,Nat.le_refl _,fun _ _ _ _=>rfl⟩
theorem aQ.trans {b g:Nat} {w1 w2 w3:World} (h:aQ b g w1 w2) (k:aQ b g w2 w3):aQ b g w1 w3:=
 ⟨k.os.trans h.os,k.tape.trans h.tape,k.output.trans h.output,Nat.le_trans h.size k.size,fun i hi a c=>(k.block i (Nat.lt_of_lt_of_le hi h.size) a c).trans (h.block i hi a c)⟩
theorem aQ.drew {b g:Nat} {w w':World} (h:aQ b g w w'):aQ b g w w'.drew:=⟨h.os,h.tape,h.output,h.size,h.block⟩
theorem aQ.drewN {b g:Nat} {w w':World} (h:aQ b g w w') (q:Nat):aQ b g w (w'.drewN q):=⟨h.os,h.tape,h.output,h.size,h.block⟩
theorem aQ.alloc {b g:Nat} {w w':World} (h:aQ b g w w') (o:Obj):aQ b g w (w'.alloc o):=
 ⟨h.os,h.tape,h.output,Nat.le_trans h.size (by simp),fun k hk a c=>by rw[Below.heap_alloc _ _ _ (Nat.lt_of_lt_of_le hk h.size)];exact h.block k hk a c⟩
theorem aQ.set {b g:Nat} {w w':World} (h:aQ b g w w') (p:Addr) (x:Value) (hp:p.block=b∨p.block=g):aQ b g w (w'.setCell p x):=
 ⟨h.os,h.tape,h.output,by simp[World.setCell];exact h.size,fun k hk a c=>by rw[Below.heap_setCell _ _ _ _ (by rcases hp with e|e<;>omega)];exact h.block k hk a c⟩
theorem aQ.jq {b g:Nat} {w w':World} (h:Below w.heap.size w w'):aQ b g w w':=⟨h.os,h.tape,h.output,h.size,fun k hk _ _=>h.block k hk⟩
structure aG (w:World) (b g n rt ct:Nat) (D S I C A B:Nat→Nat) (T:Nat→Bool):Prop where
 bg:b≠g
 sl: ∃cp,w.cell? ⟨b,0,none⟩=some (.slice (some ⟨g,0,none⟩) (n+1) cp)
 rt:w.cell? ⟨b,1,none⟩=some (.int .i64 (rt:Int))
 ct:w.cell? ⟨b,2,none⟩=some (.int .i64 (ct:Int))
 nd: ∀x,x≤n→w.cell? ⟨g,x*7,none⟩=some (.int .u64 ((D x:Nat):Int))
 ns: ∀x,x≤n→w.cell? ⟨g,x*7+1,none⟩=some (.int .u64 ((S x:Nat):Int))
 ni: ∀x,x≤n→w.cell? ⟨g,x*7+2,none⟩=some (.int .i64 ((I x:Nat):Int))
 nc: ∀x,x≤n→w.cell? ⟨g,x*7+3,none⟩=some (.int .i64 ((C x:Nat):Int))
 na: ∀x,x≤n→w.cell? ⟨g,x*7+4,none⟩=some (.int .i64 ((A x:Nat):Int))
 nb: ∀x,x≤n→w.cell? ⟨g,x*7+5,none⟩=some (.int .i64 ((B x:Nat):Int))
 nt: ∀x,x≤n→w.cell? ⟨g,x*7+6,none⟩=some (.bool (T x))
 fb: ∀o,w.frozen? ⟨b,o,none⟩=false
 fg: ∀o,w.frozen? ⟨g,o,none⟩=false
section
variable {w:World} {b g n rt ct:Nat} {D S I C A B:Nat→Nat} {T:Nat→Bool}
theorem aG.ed (h:aG w b g n rt ct D S I C A B T):b<w.heap.size:=World.block_lt_of_cell? w ⟨b,1,none⟩ h.rt
theorem aG.eI (h:aG w b g n rt ct D S I C A B T):g<w.heap.size:=World.block_lt_of_cell? w ⟨g,0*7,none⟩ (h.nd 0 (Nat.zero_le _))
theorem aG.kept {w':World} (h:aG w b g n rt ct D S I C A B T) (hb:w'.heap[b]? =w.heap[b]?) (hg:w'.heap[g]? =w.heap[g]?):aG w' b g n rt ct D S I C A B T:=by
 have eb: ∀o,w'.cell? ⟨b,o,none⟩=w.cell? ⟨b,o,none⟩:=fun o=>by simp only[World.cell?,hb]
 have eg: ∀o,w'.cell? ⟨g,o,none⟩=w.cell? ⟨g,o,none⟩:=fun o=>by simp only[World.cell?,hg]
 have ib: ∀o,w'.frozen? ⟨b,o,none⟩=w.frozen? ⟨b,o,none⟩:=fun o=>by simp only[World.frozen?,hb]
 have ig: ∀o,w'.frozen? ⟨g,o,none⟩=w.frozen? ⟨g,o,none⟩:=fun o=>by simp only[World.frozen?,hg]
 exact⟨h.bg,by simp only[eb];exact h.sl,by rw[eb];exact h.rt,by rw[eb];exact h.ct,fun x hx=>by rw[eg];exact h.nd x hx,fun x hx=>by rw[eg];exact h.ns x hx,fun x hx=>by rw[eg];exact h.ni x hx,fun x hx=>by rw[eg];exact h.nc x hx,fun x hx=>by rw[eg];exact h.na x hx,fun x hx=>by rw[eg];exact h.nb x hx,fun x hx=>by rw[eg];exact h.nt x hx,fun o=>by rw[ib];exact h.fb o,fun o=>by rw[ig];exact h.fg o⟩
theorem aG.j8 {w':World} (h:aG w b g n rt ct D S I C A B T) (e:w'.heap=w.heap):aG w' b g n rt ct D S I C A B T:=h.kept (by rw[e]) (by rw[e])
theorem aG.drew (h:aG w b g n rt ct D S I C A B T):aG w.drew b g n rt ct D S I C A B T:=h.j8 rfl
theorem aG.drewN (h:aG w b g n rt ct D S I C A B T) (q:Nat):aG (w.drewN q) b g n rt ct D S I C A B T:=h.j8 rfl
theorem aG.below (h:aG w b g n rt ct D S I C A B T) {w':World} (hw:Below w.heap.size w w'):aG w' b g n rt ct D S I C A B T:=h.kept (hw.block b h.ed) (hw.block g h.eI)
theorem aG.alloc (h:aG w b g n rt ct D S I C A B T) (o:Obj):aG (w.alloc o) b g n rt ct D S I C A B T:=h.below ((Below.refl _ _).alloc (Nat.le_refl _) o)
theorem aG.qT (h:aG w b g n rt ct D S I C A B T) (v:Nat):aG (w.setCell ⟨b,1,none⟩ (.int .i64 (v:Int))) b g n v ct D S I C A B T:=
 ⟨h.bg,by obtain⟨cp,q⟩:=h.sl;exact⟨cp,by rw[ab _ _ _ _ _ _ (by omega)];exact q⟩,au _ _ _ _ h.rt,by rw[ab _ _ _ _ _ _ (by omega)];exact h.ct,fun x hx=>by rw[ab _ _ _ _ _ _ (by have:=h.bg;omega)];exact h.nd x hx,fun x hx=>by rw[ab _ _ _ _ _ _ (by have:=h.bg;omega)];exact h.ns x hx,fun x hx=>by rw[ab _ _ _ _ _ _ (by have:=h.bg;omega)];exact h.ni x hx,fun x hx=>by rw[ab _ _ _ _ _ _ (by have:=h.bg;omega)];exact h.nc x hx,fun x hx=>by rw[ab _ _ _ _ _ _ (by have:=h.bg;omega)];exact h.na x hx,fun x hx=>by rw[ab _ _ _ _ _ _ (by have:=h.bg;omega)];exact h.nb x hx,fun x hx=>by rw[ab _ _ _ _ _ _ (by have:=h.bg;omega)];exact h.nt x hx,fun o=>by simpa using h.fb o,fun o=>by simpa using h.fg o⟩
theorem aG.C9 (h:aG w b g n rt ct D S I C A B T) (v:Nat):aG (w.setCell ⟨b,2,none⟩ (.int .i64 (v:Int))) b g n rt v D S I C A B T:=
 ⟨h.bg,by obtain⟨cp,q⟩:=h.sl;exact⟨cp,by rw[ab _ _ _ _ _ _ (by omega)];exact q⟩,by rw[ab _ _ _ _ _ _ (by omega)];exact h.rt,au _ _ _ _ h.ct,fun x hx=>by rw[ab _ _ _ _ _ _ (by have:=h.bg;omega)];exact h.nd x hx,fun x hx=>by rw[ab _ _ _ _ _ _ (by have:=h.bg;omega)];exact h.ns x hx,fun x hx=>by rw[ab _ _ _ _ _ _ (by have:=h.bg;omega)];exact h.ni x hx,fun x hx=>by rw[ab _ _ _ _ _ _ (by have:=h.bg;omega)];exact h.nc x hx,fun x hx=>by rw[ab _ _ _ _ _ _ (by have:=h.bg;omega)];exact h.na x hx,fun x hx=>by rw[ab _ _ _ _ _ _ (by have:=h.bg;omega)];exact h.nb x hx,fun x hx=>by rw[ab _ _ _ _ _ _ (by have:=h.bg;omega)];exact h.nt x hx,fun o=>by simpa using h.fb o,fun o=>by simpa using h.fg o⟩
theorem aG.FN (h:aG w b g n rt ct D S I C A B T) (p:Nat) (hp:p≤n) (v:Nat):aG (w.setCell ⟨g,p*7,none⟩ (.int .u64 (v:Int))) b g n rt ct (aw D p v) S I C A B T:=
 ⟨h.bg,by obtain⟨cp,q⟩:=h.sl;exact⟨cp,by rw[ab _ _ _ _ _ _ (by have:=h.bg;omega)];exact q⟩,by rw[ab _ _ _ _ _ _ (by have:=h.bg;omega)];exact h.rt,by rw[ab _ _ _ _ _ _ (by have:=h.bg;omega)];exact h.ct,
  fun x hx=>by
   by_cases e:x=p
   ·subst e;rw[aj];exact au _ _ _ _ (h.nd x hx)
   ·rw[af _ _ _ _ e,ab _ _ _ _ _ _ (by omega)];exact h.nd x hx,
  fun x hx=>by rw[ab _ _ _ _ _ _ (by omega)];exact h.ns x hx,
  fun x hx=>by rw[ab _ _ _ _ _ _ (by omega)];exact h.ni x hx,
  fun x hx=>by rw[ab _ _ _ _ _ _ (by omega)];exact h.nc x hx,
  fun x hx=>by rw[ab _ _ _ _ _ _ (by omega)];exact h.na x hx,
  fun x hx=>by rw[ab _ _ _ _ _ _ (by omega)];exact h.nb x hx,
  fun x hx=>by rw[ab _ _ _ _ _ _ (by omega)];exact h.nt x hx,
  fun o=>by simpa using h.fb o,fun o=>by simpa using h.fg o⟩
theorem aG.vO (h:aG w b g n rt ct D S I C A B T) (p:Nat) (hp:p≤n) (v:Nat):aG (w.setCell ⟨g,p*7+1,none⟩ (.int .u64 (v:Int))) b g n rt ct D (aw S p v) I C A B T:=
 ⟨h.bg,by obtain⟨cp,q⟩:=h.sl;exact⟨cp,by rw[ab _ _ _ _ _ _ (by have:=h.bg;omega)];exact q⟩,by rw[ab _ _ _ _ _ _ (by have:=h.bg;omega)];exact h.rt,by rw[ab _ _ _ _ _ _ (by have:=h.bg;omega)];exact h.ct,
  fun x hx=>by rw[ab _ _ _ _ _ _ (by omega)];exact h.nd x hx,
  fun x hx=>by
   by_cases e:x=p
   ·subst e;rw[aj];exact au _ _ _ _ (h.ns x hx)
   ·rw[af _ _ _ _ e,ab _ _ _ _ _ _ (by omega)];exact h.ns x hx,
  fun x hx=>by rw[ab _ _ _ _ _ _ (by omega)];exact h.ni x hx,
  fun x hx=>by rw[ab _ _ _ _ _ _ (by omega)];exact h.nc x hx,
  fun x hx=>by rw[ab _ _ _ _ _ _ (by omega)];exact h.na x hx,
  fun x hx=>by rw[ab _ _ _ _ _ _ (by omega)];exact h.nb x hx,
  fun x hx=>by rw[ab _ _ _ _ _ _ (by omega)];exact h.nt x hx,
  fun o=>by simpa using h.fb o,fun o=>by simpa using h.fg o⟩
theorem aG.FI (h:aG w b g n rt ct D S I C A B T) (p:Nat) (hp:p≤n) (v:Nat):aG (w.setCell ⟨g,p*7+2,none⟩ (.int .i64 (v:Int))) b g n rt ct D S (aw I p v) C A B T:=
 ⟨h.bg,by obtain⟨cp,q⟩:=h.sl;exact⟨cp,by rw[ab _ _ _ _ _ _ (by have:=h.bg;omega)];exact q⟩,by rw[ab _ _ _ _ _ _ (by have:=h.bg;omega)];exact h.rt,by rw[ab _ _ _ _ _ _ (by have:=h.bg;omega)];exact h.ct,
  fun x hx=>by rw[ab _ _ _ _ _ _ (by omega)];exact h.nd x hx,
  fun x hx=>by rw[ab _ _ _ _ _ _ (by omega)];exact h.ns x hx,
  fun x hx=>by
   by_cases e:x=p
   ·subst e;rw[aj];exact au _ _ _ _ (h.ni x hx)
   ·rw[af _ _ _ _ e,ab _ _ _ _ _ _ (by omega)];exact h.ni x hx,
  fun x hx=>by rw[ab _ _ _ _ _ _ (by omega)];exact h.nc x hx,
  fun x hx=>by rw[ab _ _ _ _ _ _ (by omega)];exact h.na x hx,
  fun x hx=>by rw[ab _ _ _ _ _ _ (by omega)];exact h.nb x hx,
  fun x hx=>by rw[ab _ _ _ _ _ _ (by omega)];exact h.nt x hx,
  fun o=>by simpa using h.fb o,fun o=>by simpa using h.fg o⟩
theorem aG.iK (h:aG w b g n rt ct D S I C A B T) (p:Nat) (hp:p≤n) (v:Nat):aG (w.setCell ⟨g,p*7+3,none⟩ (.int .i64 (v:Int))) b g n rt ct D S I (aw C p v) A B T:=
 ⟨h.bg,by obtain⟨cp,q⟩:=h.sl;exact⟨cp,by rw[ab _ _ _ _ _ _ (by have:=h.bg;omega)];exact q⟩,by rw[ab _ _ _ _ _ _ (by have:=h.bg;omega)];exact h.rt,by rw[ab _ _ _ _ _ _ (by have:=h.bg;omega)];exact h.ct,
  fun x hx=>by rw[ab _ _ _ _ _ _ (by omega)];exact h.nd x hx,
  fun x hx=>by rw[ab _ _ _ _ _ _ (by omega)];exact h.ns x hx,
  fun x hx=>by rw[ab _ _ _ _ _ _ (by omega)];exact h.ni x hx,
  fun x hx=>by
   by_cases e:x=p
   ·subst e;rw[aj];exact au _ _ _ _ (h.nc x hx)
   ·rw[af _ _ _ _ e,ab _ _ _ _ _ _ (by omega)];exact h.nc x hx,
  fun x hx=>by rw[ab _ _ _ _ _ _ (by omega)];exact h.na x hx,
  fun x hx=>by rw[ab _ _ _ _ _ _ (by omega)];exact h.nb x hx,
  fun x hx=>by rw[ab _ _ _ _ _ _ (by omega)];exact h.nt x hx,
  fun o=>by simpa using h.fb o,fun o=>by simpa using h.fg o⟩
theorem aG.fS (h:aG w b g n rt ct D S I C A B T) (p:Nat) (hp:p≤n) (v:Nat):aG (w.setCell ⟨g,p*7+4,none⟩ (.int .i64 (v:Int))) b g n rt ct D S I C (aw A p v) B T:=
 ⟨h.bg,by obtain⟨cp,q⟩:=h.sl;exact⟨cp,by rw[ab _ _ _ _ _ _ (by have:=h.bg;omega)];exact q⟩,by rw[ab _ _ _ _ _ _ (by have:=h.bg;omega)];exact h.rt,by rw[ab _ _ _ _ _ _ (by have:=h.bg;omega)];exact h.ct,
  fun x hx=>by rw[ab _ _ _ _ _ _ (by omega)];exact h.nd x hx,
  fun x hx=>by rw[ab _ _ _ _ _ _ (by omega)];exact h.ns x hx,
  fun x hx=>by rw[ab _ _ _ _ _ _ (by omega)];exact h.ni x hx,
  fun x hx=>by rw[ab _ _ _ _ _ _ (by omega)];exact h.nc x hx,
  fun x hx=>by
   by_cases e:x=p
   ·subst e;rw[aj];exact au _ _ _ _ (h.na x hx)
   ·rw[af _ _ _ _ e,ab _ _ _ _ _ _ (by omega)];exact h.na x hx,
  fun x hx=>by rw[ab _ _ _ _ _ _ (by omega)];exact h.nb x hx,
  fun x hx=>by rw[ab _ _ _ _ _ _ (by omega)];exact h.nt x hx,
  fun o=>by simpa using h.fb o,fun o=>by simpa using h.fg o⟩
theorem aG.fN (h:aG w b g n rt ct D S I C A B T) (p:Nat) (hp:p≤n) (v:Nat):aG (w.setCell ⟨g,p*7+5,none⟩ (.int .i64 (v:Int))) b g n rt ct D S I C A (aw B p v) T:=
 ⟨h.bg,by obtain⟨cp,q⟩:=h.sl;exact⟨cp,by rw[ab _ _ _ _ _ _ (by have:=h.bg;omega)];exact q⟩,by rw[ab _ _ _ _ _ _ (by have:=h.bg;omega)];exact h.rt,by rw[ab _ _ _ _ _ _ (by have:=h.bg;omega)];exact h.ct,
  fun x hx=>by rw[ab _ _ _ _ _ _ (by omega)];exact h.nd x hx,
  fun x hx=>by rw[ab _ _ _ _ _ _ (by omega)];exact h.ns x hx,
  fun x hx=>by rw[ab _ _ _ _ _ _ (by omega)];exact h.ni x hx,
  fun x hx=>by rw[ab _ _ _ _ _ _ (by omega)];exact h.nc x hx,
  fun x hx=>by rw[ab _ _ _ _ _ _ (by omega)];exact h.na x hx,
  fun x hx=>by
   by_cases e:x=p
   ·subst e;rw[aj];exact au _ _ _ _ (h.nb x hx)
   ·rw[af _ _ _ _ e,ab _ _ _ _ _ _ (by omega)];exact h.nb x hx,
  fun x hx=>by rw[ab _ _ _ _ _ _ (by omega)];exact h.nt x hx,
  fun o=>by simpa using h.fb o,fun o=>by simpa using h.fg o⟩
theorem aG.pR (h:aG w b g n rt ct D S I C A B T) (p:Nat) (hp:p≤n) (v:Bool):aG (w.setCell ⟨g,p*7+6,none⟩ (.bool v)) b g n rt ct D S I C A B (aw T p v):=
 ⟨h.bg,by obtain⟨cp,q⟩:=h.sl;exact⟨cp,by rw[ab _ _ _ _ _ _ (by have:=h.bg;omega)];exact q⟩,by rw[ab _ _ _ _ _ _ (by have:=h.bg;omega)];exact h.rt,by rw[ab _ _ _ _ _ _ (by have:=h.bg;omega)];exact h.ct,
  fun x hx=>by rw[ab _ _ _ _ _ _ (by omega)];exact h.nd x hx,
  fun x hx=>by rw[ab _ _ _ _ _ _ (by omega)];exact h.ns x hx,
  fun x hx=>by rw[ab _ _ _ _ _ _ (by omega)];exact h.ni x hx,
  fun x hx=>by rw[ab _ _ _ _ _ _ (by omega)];exact h.nc x hx,
  fun x hx=>by rw[ab _ _ _ _ _ _ (by omega)];exact h.na x hx,
  fun x hx=>by rw[ab _ _ _ _ _ _ (by omega)];exact h.nb x hx,
  fun x hx=>by
   by_cases e:x=p
   ·subst e;rw[aj];exact au _ _ _ _ (h.nt x hx)
   ·rw[af _ _ _ _ e,ab _ _ _ _ _ _ (by omega)];exact h.nt x hx,
  fun o=>by simpa using h.fb o,fun o=>by simpa using h.fg o⟩
end
attribute [local go_sem ↓] Go.wp_at_zero Go.wp_at_succ
def jr:Value:= .agg #[.int .u64 0,.int .u64 0,.int .i64 0,.int .i64 0,.int .i64 0,.int .i64 0,.bool false]
def cE (n:Nat):Array Value:=madeCells jr.cells ((n+1)*7)
theorem aA (w:World) (c:Array Value) (t:TypeId) (i:Nat):(w.alloc (.cells c t)).cell? ⟨w.heap.size,i,none⟩=c[i]? :=by
 unfold World.cell?
 simp only[(MapKept.heap_alloc w (.cells c t)).1]
 rfl
theorem aD (w:World) (c:Array Value) (t:TypeId) (i:Nat):(w.alloc (.cells c t)).frozen? ⟨w.heap.size,i,none⟩=false:=by
 unfold World.frozen?
 simp only[(MapKept.heap_alloc w (.cells c t)).1]
 simp
theorem gz (n k:Nat) (h:k<(n+1)*7):(cE n)[k]? =some ((#[Value.int .u64 0,.int .u64 0,.int .i64 0,.int .i64 0,.int .i64 0,.int .i64 0,.bool false]:Array Value)[k%7]!):=by
 unfold cE madeCells jr
 simp[Value.cells,h]
theorem zA:(Tryz.prog.info? 314).map (fun i=>(i.zero,i.size,i.bytes))=some (some jr,7,56):=by kernel_rfl
theorem gw (w:World) (n:Nat):
  aG ((w.alloc (.cells (cE n) 314)).alloc (.cells #[.slice (some ⟨w.heap.size,0,none⟩) (n+1) (n+1),.int .i64 0,.int .i64 0] 222)) (w.heap.size+1) w.heap.size n 0 0 (fun _=>0) (fun _=>0) (fun _=>0) (fun _=>0) (fun _=>0) (fun _=>0) (fun _=>false):=by
 have e:w.heap.size+1=(w.alloc (.cells (cE n) 314)).heap.size:=by simp
 have hb: ∀i,((w.alloc (.cells (cE n) 314)).alloc (.cells #[.slice (some ⟨w.heap.size,0,none⟩) (n+1) (n+1),.int .i64 0,.int .i64 0] 222)).cell? ⟨w.heap.size+1,i,none⟩=(#[.slice (some ⟨w.heap.size,0,none⟩) (n+1) (n+1),.int .i64 0,.int .i64 0]:Array Value)[i]? :=by
  intro i
  rw[e];exact aA _ _ _ _
 have hg: ∀i,((w.alloc (.cells (cE n) 314)).alloc (.cells #[.slice (some ⟨w.heap.size,0,none⟩) (n+1) (n+1),.int .i64 0,.int .i64 0] 222)).cell? ⟨w.heap.size,i,none⟩=(cE n)[i]? :=by
  intro i
  rw[←aA w (cE n) 314 i]
  simp only[World.cell?]
  rw[Below.heap_alloc _ _ _ (by simp)]
 have fg: ∀i,((w.alloc (.cells (cE n) 314)).alloc (.cells #[.slice (some ⟨w.heap.size,0,none⟩) (n+1) (n+1),.int .i64 0,.int .i64 0] 222)).frozen? ⟨w.heap.size,i,none⟩=false:=by
  intro i
  rw[←aD w (cE n) 314 i]
  simp only[World.frozen?]
  rw[Below.heap_alloc _ _ _ (by simp)]
 refine⟨by omega,⟨n+1,by rw[hb];rfl⟩,by rw[hb];rfl,by rw[hb];rfl,fun x hx=> ?_,fun x hx=> ?_,fun x hx=> ?_,fun x hx=> ?_,fun x hx=> ?_,fun x hx=> ?_,fun x hx=> ?_,fun o=>by rw[e];exact aD _ _ _ _,fg⟩
 ·rw[hg,gz n _ (by omega),show x*7%7=0 by omega];rfl
 ·rw[hg,gz n _ (by omega),show(x*7+1)%7=1 by omega];rfl
 ·rw[hg,gz n _ (by omega),show(x*7+2)%7=2 by omega];rfl
 ·rw[hg,gz n _ (by omega),show(x*7+3)%7=3 by omega];rfl
 ·rw[hg,gz n _ (by omega),show(x*7+4)%7=4 by omega];rfl
 ·rw[hg,gz n _ (by omega),show(x*7+5)%7=5 by omega];rfl
 ·rw[hg,gz n _ (by omega),show(x*7+6)%7=6 by omega];rfl
theorem gy (n:Nat) (w:World) (h1:1≤n) (h2:n≤1024):
  Calls Tryz.prog 72 #[.int .i64 n] w fun e w'=>e= .returned (.pointer (some ⟨w.heap.size+1,0,none⟩))∧aG w' (w.heap.size+1) w.heap.size n 0 0 (fun _=>0) (fun _=>0) (fun _=>0) (fun _=>0) (fun _=>0) (fun _=>0) (fun _=>false)∧Below w.heap.size w w':=by
 obtain⟨i0,hi,hz0,hz1,hz2⟩:=info_parts zA
 have hmk: ∀w,(Instr.makeSlice 220 (.int .i64 ((n:Int)+1)) (.int .i64 ((n:Int)+1))).run Tryz.prog w= .ok (.slice (some ⟨w.heap.size,0,none⟩) (n+1) (n+1)) (w.alloc (.cells (cE n) 314)):=by
  intro w
  have:=run_make w 220 314 i0 jr Tryz.underlying220 hi hz0 .i64 .i64 ((n:Int)+1) ((n:Int)+1) (by omega) (by omega) (by rw[hz2];omega) (by omega)
  rw[hz1,show((n:Int)+1).toNat=n+1 by omega] at this
  exact this
 have HR:=aa (gw w n)
 clear hi hz0 hz1 hz2
 go_enter Tryz.func72,Tryz.ntmps72
 go_wp2
 go_ret
 exact⟨rfl,HR.out,((Below.refl _ _).alloc (Nat.le_refl _) _).alloc (by simp) _⟩
def x5 (d1 s1 i1 d2 s2 i2:Nat):Bool:=if d1=d2 then(if s1=s2 then decide (i1<i2) else decide (s1<s2)) else decide (d1<d2)
theorem oF (d1 s1 i1 d2 s2 i2:Nat) (w:World):
  Calls Tryz.prog 228 #[.agg #[.int .u64 d1,.int .u64 s1,.int .i64 i1],.agg #[.int .u64 d2,.int .u64 s2,.int .i64 i2]] w fun e w'=>e= .returned (.bool (x5 d1 s1 i1 d2 s2 i2))∧Below w.heap.size w w':=by
 generalize hb:x5 d1 s1 i1 d2 s2 i2=bb
 unfold x5 at hb
 by_cases h1:d1=d2
 ·rw[if_pos h1] at hb
  by_cases h2:s1=s2
  ·rw[if_pos h2] at hb
   subst h1 h2
   go_enter Tryz.func228,Tryz.ntmps228
   go_wp2
   go_ret
   exact⟨by rw[←hb];simp,((Below.refl _ _).alloc (Nat.le_refl _) _).alloc (by simp) _⟩
  ·rw[if_neg h2] at hb
   have h2': ¬(s1:Int)=(s2:Int):=by omega
   subst h1
   go_enter Tryz.func228,Tryz.ntmps228
   go_wp2
   go_ret
   exact⟨by rw[←hb];simp,((Below.refl _ _).alloc (Nat.le_refl _) _).alloc (by simp) _⟩
 ·rw[if_neg h1] at hb
  have h1': ¬(d1:Int)=(d2:Int):=by omega
  go_enter Tryz.func228,Tryz.ntmps228
  go_wp2
  go_ret
  exact⟨by rw[←hb];simp,((Below.refl _ _).alloc (Nat.le_refl _) _).alloc (by simp) _⟩
section
variable {w:World} {b g n rt ct:Nat} {D S I C A B:Nat→Nat} {T:Nat→Bool}
theorem vI (two:Nat) (w:World) (b:Nat):
  Calls Tryz.prog 218 #[.pointer (some ⟨b,0,none⟩),.int .i64 0,.int .i64 two] w fun e w'=>e= .returned (.int .i64 two)∧w'=w:=by
 go_enter Tryz.func218,Tryz.ntmps218
 go_wp2
 go_ret
 exact⟨rfl,rfl⟩
theorem mU (one:Nat) (h1:1≤one) (w:World) (b:Nat):
  Calls Tryz.prog 218 #[.pointer (some ⟨b,0,none⟩),.int .i64 one,.int .i64 0] w fun e w'=>e= .returned (.int .i64 one)∧w'=w:=by
 have h0: ¬(one:Int)=0:=by omega
 go_enter Tryz.func218,Tryz.ntmps218
 go_wp2
 go_ret
 exact⟨rfl,rfl⟩
theorem ov (h:aG w b g n rt ct D S I C A B T) (p q:Nat) (hp:1≤p) (hpn:p≤n) (hq:1≤q) (hqn:q≤n) (hf:C p≤n) (hfq:C p≠q)
  (hbef:x5 (D p) (S p) (I p) (D q) (S q) (I q)=true):
  Calls Tryz.prog 218 #[.pointer (some ⟨b,0,none⟩),.int .i64 q,.int .i64 p] w fun e w'=>e= .returned (.int .i64 p)∧
   aG w' b g n rt ct D S I (aw C p q) (aw (if C p=0 then A else aw A (C p) q) q p) (aw B q (C p)) T∧aQ b g w w':=by
 obtain⟨cp,e0⟩:=h.sl
 have ep0:=h.nd p hpn;have ep1:=h.ns p hpn;have ep2:=h.ni p hpn
 have eq0:=h.nd q hqn;have eq1:=h.ns q hqn;have eq2:=h.ni q hqn
 have p0: ¬(p:Int)=0:=by omega
 have q0: ¬(q:Int)=0:=by omega
 have pl:p<n+1:=by omega
 have ql:q<n+1:=by omega
 have pl0:(0:Int)≤(p:Int):=by omega
 have ql0:(0:Int)≤(q:Int):=by omega
 obtain⟨L,hL⟩: ∃L,L=n+1:=⟨_,rfl⟩
 rw[←hL] at e0
 have pl1:(p:Int)<(L:Int):=by omega
 have ql1:(q:Int)<(L:Int):=by omega
 have HLe:=aa hL
 clear hL pl ql
 have HB:Hid (∀w1,Below w.heap.size w w1→aG w1 b g n rt ct D S I C A B T):=fun w1 hb=>h.below hb
 have HE:=oF (D p) (S p) (I p) (D q) (S q) (I q)
 rw[hbef] at HE
 have HE:=aa HE
 have hbb:=h.ed
 have hgg:=h.eI
 clear h hbef
 go_enter Tryz.func218,Tryz.ntmps218
 go_wp2
 go_region_held3 (fun w'=>w'.cell? ⟨b,0,none⟩=some (.slice (some ⟨g,0,none⟩) L cp)∧w'.cell? ⟨g,p*7,none⟩=some (.int .u64 (D p))∧w'.cell? ⟨g,p*7+1,none⟩=some (.int .u64 (S p))∧w'.cell? ⟨g,p*7+2,none⟩=some (.int .i64 (I p))∧w'.cell? ⟨g,q*7,none⟩=some (.int .u64 (D q))∧w'.cell? ⟨g,q*7+1,none⟩=some (.int .u64 (S q))∧w'.cell? ⟨g,q*7+2,none⟩=some (.int .i64 (I q)))
  (first|go_keep|exact⟨(hb1.cell (p:=⟨b,0,none⟩) hbb).trans e0,(hb1.cell (p:=⟨g,p*7,none⟩) hgg).trans ep0,(hb1.cell (p:=⟨g,p*7+1,none⟩) hgg).trans ep1,(hb1.cell (p:=⟨g,p*7+2,none⟩) hgg).trans ep2,(hb1.cell (p:=⟨g,q*7,none⟩) hgg).trans eq0,(hb1.cell (p:=⟨g,q*7+1,none⟩) hgg).trans eq1,(hb1.cell (p:=⟨g,q*7+2,none⟩) hgg).trans eq2⟩)
  ((go_at_call 228;refine(HE.out _).mono ?_;rintro e w1 ⟨rfl,hb1'⟩;have hb1:Below w.heap.size w w1:=(show Below w.heap.size w w.drew from(Below.refl _ _).drew).trans hb1';clear hb1'))
 have hr:=HB.out _ hb1
 have HL:=aa hb1
 have HR:=aa hr
 clear hb1 e0 ep0 ep1 ep2 eq0 eq1 eq2
 obtain⟨cp1,e0⟩:=hr.sl
 rw[←HLe.out] at e0
 have c1:=hr.nc p hpn
 have c2:=hr.na q hqn
 have c3:=hr.nb q hqn
 have fg:=hr.fg
 by_cases hf0:C p=0
 ·rw[hf0] at c1
  have c1':w1.cell? ⟨g,p*7+3,none⟩=some (.int .i64 0):=c1
  have HF0:=aa hf0
  clear hr c1 hf0 hf hfq
  go_wp2
  go_region
  go_wp2
  go_ret
  refine⟨rfl,?_,?_⟩
  ·exact(((HR.out.fS q hqn p).fN q hqn 0).iK p hpn q).drew
  ·exact((((aQ.jq HL.out).set ⟨g,q*7+4,none⟩ _ (Or.inr rfl)).set ⟨g,q*7+5,none⟩ _ (Or.inr rfl)).set ⟨g,p*7+3,none⟩ _ (Or.inr rfl)).drew
 ·have c4:=hr.na (C p) hf
  have HF0:=aa hf0
  generalize hff:C p=f at*
  have f0: ¬(f:Int)=0:=by omega
  have fl0:(0:Int)≤(f:Int):=by omega
  have fl1:(f:Int)<(L:Int):=by have:=HLe.out;omega
  clear hr
  go_wp2
  go_region
  go_wp2
  go_ret
  refine⟨rfl,?_,?_⟩
  ·exact((((HR.out.fS f hf q).fS q hqn p).fN q hqn f).iK p hpn q).drew
  ·exact(((((aQ.jq HL.out).set ⟨g,f*7+4,none⟩ _ (Or.inr rfl)).set ⟨g,q*7+4,none⟩ _ (Or.inr rfl)).set ⟨g,q*7+5,none⟩ _ (Or.inr rfl)).set ⟨g,p*7+3,none⟩ _ (Or.inr rfl)).drew
theorem nU (h:aG w b g n rt ct D S I C A B T) (p q:Nat) (hp:1≤p) (hpn:p≤n) (hq:1≤q) (hqn:q≤n) (hf:C p≤n) (hfq:C p≠q)
  (hbef:x5 (D q) (S q) (I q) (D p) (S p) (I p)=false):
  Calls Tryz.prog 218 #[.pointer (some ⟨b,0,none⟩),.int .i64 p,.int .i64 q] w fun e w'=>e= .returned (.int .i64 p)∧
   aG w' b g n rt ct D S I (aw C p q) (aw (if C p=0 then A else aw A (C p) q) q p) (aw B q (C p)) T∧aQ b g w w':=by
 obtain⟨cp,e0⟩:=h.sl
 have ep0:=h.nd p hpn;have ep1:=h.ns p hpn;have ep2:=h.ni p hpn
 have eq0:=h.nd q hqn;have eq1:=h.ns q hqn;have eq2:=h.ni q hqn
 have p0: ¬(p:Int)=0:=by omega
 have q0: ¬(q:Int)=0:=by omega
 have pl:p<n+1:=by omega
 have ql:q<n+1:=by omega
 have pl0:(0:Int)≤(p:Int):=by omega
 have ql0:(0:Int)≤(q:Int):=by omega
 obtain⟨L,hL⟩: ∃L,L=n+1:=⟨_,rfl⟩
 rw[←hL] at e0
 have pl1:(p:Int)<(L:Int):=by omega
 have ql1:(q:Int)<(L:Int):=by omega
 have HLe:=aa hL
 clear hL pl ql
 have HB:Hid (∀w1,Below w.heap.size w w1→aG w1 b g n rt ct D S I C A B T):=fun w1 hb=>h.below hb
 have HE:=oF (D q) (S q) (I q) (D p) (S p) (I p)
 rw[hbef] at HE
 have HE:=aa HE
 have hbb:=h.ed
 have hgg:=h.eI
 clear h hbef
 go_enter Tryz.func218,Tryz.ntmps218
 go_wp2
 go_region_held3 (fun w'=>w'.cell? ⟨b,0,none⟩=some (.slice (some ⟨g,0,none⟩) L cp)∧w'.cell? ⟨g,p*7,none⟩=some (.int .u64 (D p))∧w'.cell? ⟨g,p*7+1,none⟩=some (.int .u64 (S p))∧w'.cell? ⟨g,p*7+2,none⟩=some (.int .i64 (I p))∧w'.cell? ⟨g,q*7,none⟩=some (.int .u64 (D q))∧w'.cell? ⟨g,q*7+1,none⟩=some (.int .u64 (S q))∧w'.cell? ⟨g,q*7+2,none⟩=some (.int .i64 (I q)))
  (first|go_keep|exact⟨(hb1.cell (p:=⟨b,0,none⟩) hbb).trans e0,(hb1.cell (p:=⟨g,p*7,none⟩) hgg).trans ep0,(hb1.cell (p:=⟨g,p*7+1,none⟩) hgg).trans ep1,(hb1.cell (p:=⟨g,p*7+2,none⟩) hgg).trans ep2,(hb1.cell (p:=⟨g,q*7,none⟩) hgg).trans eq0,(hb1.cell (p:=⟨g,q*7+1,none⟩) hgg).trans eq1,(hb1.cell (p:=⟨g,q*7+2,none⟩) hgg).trans eq2⟩)
  ((go_at_call 228;refine(HE.out _).mono ?_;rintro e w1 ⟨rfl,hb1'⟩;have hb1:Below w.heap.size w w1:=(show Below w.heap.size w w.drew from(Below.refl _ _).drew).trans hb1';clear hb1'))
 have hr:=HB.out _ hb1
 have HL:=aa hb1
 have HR:=aa hr
 clear hb1 e0 ep0 ep1 ep2 eq0 eq1 eq2
 obtain⟨cp1,e0⟩:=hr.sl
 rw[←HLe.out] at e0
 have c1:=hr.nc p hpn
 have c2:=hr.na q hqn
 have c3:=hr.nb q hqn
 have fg:=hr.fg
 by_cases hf0:C p=0
 ·rw[hf0] at c1
  have c1':w1.cell? ⟨g,p*7+3,none⟩=some (.int .i64 0):=c1
  have HF0:=aa hf0
  clear hr c1 hf0 hf hfq
  go_wp2
  go_region
  go_wp2
  go_ret
  refine⟨rfl,?_,?_⟩
  ·exact(((HR.out.fS q hqn p).fN q hqn 0).iK p hpn q).drew
  ·exact((((aQ.jq HL.out).set ⟨g,q*7+4,none⟩ _ (Or.inr rfl)).set ⟨g,q*7+5,none⟩ _ (Or.inr rfl)).set ⟨g,p*7+3,none⟩ _ (Or.inr rfl)).drew
 ·have c4:=hr.na (C p) hf
  have HF0:=aa hf0
  generalize hff:C p=f at*
  have f0: ¬(f:Int)=0:=by omega
  have fl0:(0:Int)≤(f:Int):=by omega
  have fl1:(f:Int)<(L:Int):=by have:=HLe.out;omega
  clear hr
  go_wp2
  go_region
  go_wp2
  go_ret
  refine⟨rfl,?_,?_⟩
  ·exact((((HR.out.fS f hf q).fS q hqn p).fN q hqn f).iK p hpn q).drew
  ·exact(((((aQ.jq HL.out).set ⟨g,f*7+4,none⟩ _ (Or.inr rfl)).set ⟨g,q*7+4,none⟩ _ (Or.inr rfl)).set ⟨g,q*7+5,none⟩ _ (Or.inr rfl)).set ⟨g,p*7+3,none⟩ _ (Or.inr rfl)).drew
end
section
variable {w:World} {b g n rt ct:Nat} {D S I C A B:Nat→Nat} {T:Nat→Bool}
theorem nF (h:aG w b g n rt ct D S I C A B T) (id d s r:Nat) (hid:id<n) (hn:n≤1024) (hct:ct≤1024) {D' S' I' C' A' B':Nat→Nat} {T':Nat→Bool}
  (hJ: ∀w1,aG w1 b g n rt ct (aw D (id+1) d) (aw S (id+1) s) (aw I (id+1) id) (aw C (id+1) 0) (aw A (id+1) 0) (aw B (id+1) 0) (aw T (id+1) true)→Calls Tryz.prog 218 #[.pointer (some ⟨b,0,none⟩),.int .i64 (rt:Int),.int .i64 ((id:Int)+1)] w1 fun e w'=>e= .returned (.int .i64 (r:Int))∧aG w' b g n rt ct D' S' I' C' A' B' T'∧aQ b g w1 w'):
  Calls Tryz.prog 219 #[.pointer (some ⟨b,0,none⟩),.agg #[.int .u64 (d:Int),.int .u64 (s:Int),.int .i64 (id:Int)]] w fun e w'=>e= .returned (.tuple #[])∧aG w' b g n r (ct+1) D' S' I' C' A' B' T'∧aQ b g w w':=by
 have hi:id+1≤n:=by omega
 obtain⟨cp,e0⟩:=h.sl
 have e1:=h.rt
 have e2:=h.ct
 have n0:=h.nd (id+1) hi;have n1:=h.ns (id+1) hi;have n2:=h.ni (id+1) hi;have n3:=h.nc (id+1) hi;have n4:=h.na (id+1) hi;have n5:=h.nb (id+1) hi;have n6:=h.nt (id+1) hi
 have fg:=h.fg
 have fb:=h.fb
 have hbb:=h.ed
 have hgg:=h.eI
 have hbg:=h.bg
 have hgb:g≠b:=fun e=>hbg e.symm
 have y1: ¬b=w.heap.size:=by omega
 have y2: ¬g=w.heap.size:=by omega
 have HO0:Hid (aQ b g w (((((((((w.setCell ⟨g,(id+1)*7,none⟩ (.int .u64 (d:Int))).setCell ⟨g,(id+1)*7+1,none⟩ (.int .u64 (s:Int))).setCell ⟨g,(id+1)*7+2,none⟩ (.int .i64 (id:Int))).setCell ⟨g,(id+1)*7+3,none⟩ (.int .i64 0)).setCell ⟨g,(id+1)*7+4,none⟩ (.int .i64 0)).setCell ⟨g,(id+1)*7+5,none⟩ (.int .i64 0)).setCell ⟨g,(id+1)*7+6,none⟩ (.bool true)).alloc (.cells #[.int .u64 (d:Int),.int .u64 (s:Int),.int .i64 (id:Int)] 312)).drew)):=
  ((((((((((aQ.refl b g w).set _ _ (Or.inr rfl)).set _ _ (Or.inr rfl)).set _ _ (Or.inr rfl)).set _ _ (Or.inr rfl)).set _ _ (Or.inr rfl)).set _ _ (Or.inr rfl)).set _ _ (Or.inr rfl)).alloc _).drew)
 have HR0:Hid (aG (((((((((w.setCell ⟨g,(id+1)*7,none⟩ (.int .u64 (d:Int))).setCell ⟨g,(id+1)*7+1,none⟩ (.int .u64 (s:Int))).setCell ⟨g,(id+1)*7+2,none⟩ (.int .i64 (id:Int))).setCell ⟨g,(id+1)*7+3,none⟩ (.int .i64 0)).setCell ⟨g,(id+1)*7+4,none⟩ (.int .i64 0)).setCell ⟨g,(id+1)*7+5,none⟩ (.int .i64 0)).setCell ⟨g,(id+1)*7+6,none⟩ (.bool true)).alloc (.cells #[.int .u64 (d:Int),.int .u64 (s:Int),.int .i64 (id:Int)] 312)).drew) b g n rt ct (aw D (id+1) d) (aw S (id+1) s) (aw I (id+1) id) (aw C (id+1) 0) (aw A (id+1) 0) (aw B (id+1) 0) (aw T (id+1) true)):=
  ((((((((h.FN (id+1) hi d).vO (id+1) hi s).FI (id+1) hi id).iK (id+1) hi 0).fS (id+1) hi 0).fN (id+1) hi 0).pR (id+1) hi true).alloc _).drew
 have HJ:=aa hJ
 clear h hJ
 go_enter Tryz.func219,Tryz.ntmps219
 go_wp2
 go_region
 go_wp2_with (go_at_call 218;refine(HJ.out _ HR0.out).mono ?_;rintro e w2 ⟨rfl,hr2,ho2⟩;have r1:=hr2.rt;have r2:=hr2.ct;have r3:=hr2.fb;have HR2:=aa hr2;have HO2:=aa (HO0.out.trans ho2);clear hr2 ho2)
 go_end0
 refine⟨rfl,(HR2.out.qT r).C9 (ct+1),(HO2.out.set ⟨b,1,none⟩ _ (Or.inl rfl)).set ⟨b,2,none⟩ _ (Or.inl rfl)⟩
end
section
variable {w:World} {b g n rt ct:Nat} {D S I C A B:Nat→Nat} {T:Nat→Bool}
theorem Ez (h:aG w b g n rt ct D S I C A B T) (x a:Nat) (hxn:x≤n) (han:a≤n) (h1:A x=a) (h2:C a=x) (h3:B x=0):
  Calls Tryz.prog 217 #[.pointer (some ⟨b,0,none⟩),.int .i64 x] w fun e w'=>e= .returned (.tuple #[])∧aG w' b g n rt ct D S I (aw C a 0) A B T∧aQ b g w w':=by
 obtain⟨cp,e0⟩:=h.sl
 have n0:=h.nd x hxn;have n1:=h.ns x hxn;have n2:=h.ni x hxn;have n3:=h.nc x hxn;have n4:=h.na x hxn;have n5:=h.nb x hxn;have n6:=h.nt x hxn
 rw[h1] at n4
 rw[h3] at n5
 have n5':w.cell? ⟨g,x*7+5,none⟩=some (.int .i64 0):=n5
 have c1:=h.nc a han
 rw[h2] at c1
 have fg:=h.fg
 have hbb:=h.ed
 have hgg:=h.eI
 have y1: ¬b=w.heap.size:=by omega
 have y2: ¬g=w.heap.size:=by omega
 have xl:x<n+1:=by omega
 have al:a<n+1:=by omega
 have HR:=aa h
 clear h h1 h2 h3 n5
 go_enter Tryz.func217,Tryz.ntmps217
 go_wp2
 go_quiet (fail)
 go_wp2
 go_region
 go_wp2
 go_end0
 exact⟨rfl,((HR.out.alloc _).drewN _).iK a han 0,(((aQ.refl b g w).alloc _).drewN _).set _ _ (Or.inr rfl)⟩
end
section
variable {w:World} {b g n rt ct:Nat} {D S I C A B:Nat→Nat} {T:Nat→Bool}
theorem oA (h:aG w b g n rt ct D S I C A B T) (x:Nat) (hx:x≤n):
  aG (((((((w.setCell ⟨g,x*7,none⟩ (.int .u64 0)).setCell ⟨g,x*7+1,none⟩ (.int .u64 0)).setCell ⟨g,x*7+2,none⟩ (.int .i64 0)).setCell ⟨g,x*7+3,none⟩ (.int .i64 0)).setCell ⟨g,x*7+4,none⟩ (.int .i64 0)).setCell ⟨g,x*7+5,none⟩ (.int .i64 0)).setCell ⟨g,x*7+6,none⟩ (.bool false)) b g n rt ct (aw D x 0) (aw S x 0) (aw I x 0) (aw C x 0) (aw A x 0) (aw B x 0) (aw T x false):=
 ((((((h.FN x hx 0).vO x hx 0).FI x hx 0).iK x hx 0).fS x hx 0).fN x hx 0).pR x hx false
end
end Go.Proofs.YtdbailcdlngemaaGreatDoor.Ph
namespace Go.Proofs.YtdbailcdlngemaaGreatDoor.Ph
open Go.RowKit
section
variable {w:World} {b g n rt ct:Nat} {D S I C A B:Nat→Nat} {T:Nat→Bool}
theorem fq (h:aG w b g n rt ct D S I C A B T) (id:Nat) (hn:n≤1024) (hid:id<n):
  Calls Tryz.prog 197 #[.pointer (some ⟨b,0,none⟩),.int .i64 id] w fun e w'=>e= .returned (.bool true)∧w'=w:=by
 obtain⟨cp,e0⟩:=h.sl
 clear h
 go_enter Tryz.func197,Tryz.ntmps197
 go_wp2
 go_ret
 exact⟨by simp,rfl⟩
theorem rk (h:aG w b g n rt ct D S I C A B T) (id d s:Nat) (hn:n≤1024) (hid:id<n) (hT:T (id+1)=false) (P:World→Prop)
  (hP:Calls Tryz.prog 219 #[.pointer (some ⟨b,0,none⟩),.agg #[.int .u64 (d:Int),.int .u64 (s:Int),.int .i64 (id:Int)]] w fun e w'=>e= .returned (.tuple #[])∧P w'):
  Calls Tryz.prog 200 #[.pointer (some ⟨b,0,none⟩),.int .i64 (id:Int),.int .u64 (d:Int),.int .u64 (s:Int)] w fun e w'=>e= .returned (.int .i64 0)∧P w':=by
 have HM:=aa (fq h id hn hid)
 have HP:=aa hP
 obtain⟨cp,e0⟩:=h.sl
 have e1:=h.nt (id+1) (by omega)
 rw[hT] at e1
 clear h hP hT
 go_enter Tryz.func200,Tryz.ntmps200
 go_wp2_with (first
  |(go_at_call 197;refine(HM.out).mono ?_;rintro e w1 ⟨rfl,hw⟩;replace hw:=hw.symm;subst hw)
  |(go_at_call 219;refine(HP.out).mono ?_;rintro e w2 ⟨rfl,hp⟩;have HP2:=aa hp;clear hp))
 go_ret
 exact⟨rfl,HP2.out⟩
theorem qV (h:aG w b g n rt ct D S I C A B T) (id:Nat) (hn:n≤1024) (hid:id<n) (hT:T (id+1)=true) (P:World→Prop)
  (hP:Calls Tryz.prog 199 #[.pointer (some ⟨b,0,none⟩),.int .i64 ((id+1:Nat):Int)] w fun e w'=>e= .returned (.tuple #[])∧P w'):
  Calls Tryz.prog 187 #[.pointer (some ⟨b,0,none⟩),.int .i64 (id:Int)] w fun e w'=>e= .returned (.int .i64 0)∧P w':=by
 have HM:=aa (fq h id hn hid)
 have HP:=aa hP
 obtain⟨cp,e0⟩:=h.sl
 have e1:=h.nt (id+1) (by omega)
 rw[hT] at e1
 clear h hP hT
 go_enter Tryz.func187,Tryz.ntmps187
 go_wp2_with (first
  |(go_at_call 197;refine(HM.out).mono ?_;rintro e w1 ⟨rfl,hw⟩;replace hw:=hw.symm;subst hw)
  |(go_at_call 199;refine(HP.out).mono ?_;rintro e w2 ⟨rfl,hp⟩;have HP2:=aa hp;clear hp))
 go_ret
 exact⟨rfl,HP2.out⟩
theorem zM (h:aG w b g n rt ct D S I C A B T) (h1:1≤rt) (h2:rt≤n):
  Calls Tryz.prog 192 #[.pointer (some ⟨b,0,none⟩)] w fun e w'=>e= .returned (.tuple #[.int .i64 (I rt:Int),.bool true])∧ ∃q,w'=w.drewN q:=by
 obtain⟨cp,e0⟩:=h.sl
 have e1:=h.rt
 have e2:=h.ni rt h2
 have r0: ¬(rt:Int)=0:=by omega
 have rl:rt<n+1:=by omega
 clear h
 go_enter Tryz.func192,Tryz.ntmps192
 go_wp2
 go_quiet (fail)
 go_wp2
 go_ret2
 exact⟨rfl,_,rfl⟩
end
end Go.Proofs.YtdbailcdlngemaaGreatDoor.Ph
namespace Go.Proofs.YtdbailcdlngemaaGreatDoor.Ph
inductive BT where
 |nil:BT
 |node (s:Nat) (c x:BT):BT
def BT.root:BT→Nat
 | .nil=>0
 | .node s _ _=>s
def BT.ai:BT→List Nat
 | .nil=>[]
 | .node s c x=>s::(c.ai++x.ai)
def bH (C A B:Nat→Nat):Nat→BT→Prop
 |_,.nil=>True
 |p,.node s c x=>A s=p∧C s=c.root∧B s=x.root∧bH C A B s c∧bH C A B s x
def Tree (C A B:Nat→Nat) (r:Nat) (c:BT):Prop:=C r=c.root∧B r=0∧bH C A B r c
theorem aS {C A B C' A' B':Nat→Nat}: ∀(t:BT) (p:Nat),(∀s∈t.ai,C' s=C s∧A' s=A s∧B' s=B s)→bH C A B p t→bH C' A' B' p t
 | .nil,_,_,_=>trivial
 | .node s c x,p,h,hl=>by
  obtain⟨h1,h2,h3,h4,h5⟩:=hl
  obtain⟨a1,a2,a3⟩:=h s (by simp[BT.ai])
  exact⟨a2.trans h1,a1.trans h2,a3.trans h3,aS c s (fun y hy=>h y (by simp[BT.ai,hy])) h4,aS x s (fun y hy=>h y (by simp[BT.ai,hy])) h5⟩
theorem kQ {C A B A':Nat→Nat} (t:BT) (p q:Nat) (hn:t.ai.Nodup) (h0:t.root∈t.ai→A' t.root=q) (h: ∀s∈t.ai,s≠t.root→A' s=A s) (hl:bH C A B p t):bH C A' B q t:=by
 cases t with
 |nil=>trivial
 |node s c x=>
  obtain⟨h1,h2,h3,h4,h5⟩:=hl
  simp only[BT.ai,List.nodup_cons,List.mem_append,not_or] at hn
  refine⟨h0 (by simp[BT.ai,BT.root]),h2,h3,?_,?_⟩
  ·exact aS c s (fun y hy=>⟨rfl,h y (by simp[BT.ai,hy]) (fun e=>hn.1.1 (by rw[BT.root] at e;exact e▸hy)),rfl⟩) h4
  ·exact aS x s (fun y hy=>⟨rfl,h y (by simp[BT.ai,hy]) (fun e=>hn.1.2 (by rw[BT.root] at e;exact e▸hy)),rfl⟩) h5
theorem pW {t:BT} (h:t≠ .nil):t.root∈t.ai:=by
 cases t with
 |nil=>exact absurd rfl h
 |node s c x=>simp[BT.root,BT.ai]
theorem vu {C A B:Nat→Nat} {p q:Nat} {cp cq:BT} (hp:Tree C A B p cp) (hq:Tree C A B q cq) (hn:(p::q::(cq.ai++cp.ai)).Nodup) (h0: ∀s∈cp.ai,s≠0):
  Tree (aw C p q) (aw (if C p=0 then A else aw A (C p) q) q p) (aw B q (C p)) p (.node q cq cp):=by
 obtain⟨p1,p2,p3⟩:=hp
 obtain⟨q1,q2,q3⟩:=hq
 simp only[List.nodup_cons,List.mem_cons,List.mem_append,not_or,List.nodup_append] at hn
 obtain⟨⟨npq,npc,npd⟩,⟨nqc,nqd⟩,hc,hd,hcd⟩:=hn
 have hqp:q≠p:=fun e=>npq e.symm
 refine⟨by rw[aj];rfl,by rw[af _ _ _ _ npq];exact p2,by rw[aj],by rw[af _ _ _ _ hqp];exact q1,by rw[aj];exact p1,?_,?_⟩
 ·refine aS cq q (fun s hs=>⟨af _ _ _ _ (fun e=>npc (e▸hs)),?_,af _ _ _ _ (fun e=>nqc (e▸hs))⟩) q3
  have hsq:s≠q:=fun e=>nqc (e▸hs)
  rw[af _ _ _ _ hsq]
  by_cases hz:C p=0
  ·rw[if_pos hz]
  ·rw[if_neg hz,af]
   intro e
   have hne:cp≠ .nil:=fun q=>hz (by rw[p1,q];rfl)
   exact hcd s hs (C p) (by rw[p1];exact pW hne) e
 ·have hm:bH C (aw (if C p=0 then A else aw A (C p) q) q p) B q cp:=by
   refine kQ cp p q hd (fun hr=> ?_) (fun s hs hne=> ?_) p3
   ·have hz: ¬C p=0:=by rw[p1];exact h0 _ hr
    have hrq:cp.root≠q:=fun e=>nqd (e▸hr)
    rw[af _ _ _ _ hrq,if_neg hz,p1,aj]
   ·have hsq:s≠q:=fun e=>nqd (e▸hs)
    rw[af _ _ _ _ hsq]
    by_cases hz:C p=0
    ·rw[if_pos hz]
    ·rw[if_neg hz,af _ _ _ _ (by rw[p1];exact hne)]
  exact aS cp q (fun s hs=>⟨af _ _ _ _ (fun e=>npd (e▸hs)),rfl,af _ _ _ _ (fun e=>nqd (e▸hs))⟩) hm
def Ord (le:Nat→Nat→Prop):BT→Prop
 | .nil=>True
 | .node s c x=>(∀y∈c.ai,le s y)∧Ord le c∧Ord le x
theorem gT {le:Nat→Nat→Prop} (tr: ∀a b c,le a b→le b c→le a c) {p q:Nat} {cp cq:BT} (hpq:le p q) (hp: ∀y∈cp.ai,le p y) (hq: ∀y∈cq.ai,le q y) (op:Ord le cp) (oq:Ord le cq):
  (∀y∈(BT.node q cq cp).ai,le p y)∧Ord le (.node q cq cp):=by
 refine⟨fun y hy=> ?_,hq,oq,op⟩
 simp only[BT.ai,List.mem_cons,List.mem_append] at hy
 rcases hy with rfl|hy|hy
 ·exact hpq
 ·exact tr _ _ _ hpq (hq y hy)
 ·exact hp y hy
open Go.RowKit
attribute [local go_sem ↓] Go.wp_at_zero Go.wp_at_succ
section
variable {w:World} {b g n rt ct:Nat} {D S I C A B:Nat→Nat} {T:Nat→Bool}
theorem Aw (h:aG w b g n rt ct D S I C A B T) (x a f:Nat) (hxn:x≤n) (han:a≤n) (hfn:f≤n) (h1:A x=a) (h3:B x=f):
  Calls Tryz.prog 217 #[.pointer (some ⟨b,0,none⟩),.int .i64 x] w fun e w'=>e= .returned (.tuple #[])∧aG w' b g n rt ct D S I (if C a=x then aw C a f else C) (if f=0 then A else aw A f a) (if C a=x then B else aw B a f) T∧aQ b g w w':=by
 obtain⟨cp,e0⟩:=h.sl
 have n0:=h.nd x hxn;have n1:=h.ns x hxn;have n2:=h.ni x hxn;have n3:=h.nc x hxn;have n4:=h.na x hxn;have n5:=h.nb x hxn;have n6:=h.nt x hxn
 rw[h1] at n4
 rw[h3] at n5
 have c1:=h.nc a han
 have c2:=h.nb a han
 have c3:=h.na f hfn
 have fg:=h.fg
 have hbb:=h.ed
 have hgg:=h.eI
 have y1: ¬b=w.heap.size:=by omega
 have y2: ¬g=w.heap.size:=by omega
 have xl:x<n+1:=by omega
 have al:a<n+1:=by omega
 have fl:f<n+1:=by omega
 have HR:=aa h
 clear h h1 h3
 by_cases hc:C a=x
 ·have hci:(C a:Int)=(x:Int):=by omega
  by_cases hf:f=0
  ·subst hf
   rw[hc] at c1
   have n5':w.cell? ⟨g,x*7+5,none⟩=some (.int .i64 0):=n5
   clear hci n5
   go_enter Tryz.func217,Tryz.ntmps217
   go_wp2
   go_quiet (fail)
   go_wp2
   go_region
   go_wp2
   go_end0
   exact⟨rfl,((HR.out.alloc _).drewN _).iK a han 0,(((aQ.refl b g w).alloc _).drewN _).set _ _ (Or.inr rfl)⟩
  ·have f0: ¬(f:Int)=0:=by omega
   rw[hc] at c1
   clear hci
   go_enter Tryz.func217,Tryz.ntmps217
   go_wp2
   go_quiet (fail)
   go_wp2
   go_region
   go_wp2
   go_region
   go_wp2
   go_end0
   exact⟨rfl,((((HR.out.alloc _).drewN _).iK a han f).fS f hfn a).drew,(((((aQ.refl b g w).alloc _).drewN _).set _ _ (Or.inr rfl)).set _ _ (Or.inr rfl)).drew⟩
 ·have hci: ¬(C a:Int)=(x:Int):=by omega
  by_cases hf:f=0
  ·subst hf
   have n5':w.cell? ⟨g,x*7+5,none⟩=some (.int .i64 0):=n5
   clear n5
   go_enter Tryz.func217,Tryz.ntmps217
   go_wp2
   go_quiet (fail)
   go_wp2
   go_region
   go_wp2
   go_end0
   exact⟨rfl,((HR.out.alloc _).drewN _).fN a han 0,(((aQ.refl b g w).alloc _).drewN _).set _ _ (Or.inr rfl)⟩
  ·have f0: ¬(f:Int)=0:=by omega
   go_enter Tryz.func217,Tryz.ntmps217
   go_wp2
   go_quiet (fail)
   go_wp2
   go_region
   go_wp2
   go_region
   go_wp2
   go_end0
   exact⟨rfl,((((HR.out.alloc _).drewN _).fN a han f).fS f hfn a).drew,(((((aQ.refl b g w).alloc _).drewN _).set _ _ (Or.inr rfl)).set _ _ (Or.inr rfl)).drew⟩
end
end Go.Proofs.YtdbailcdlngemaaGreatDoor.Ph
namespace Go.Proofs.YtdbailcdlngemaaGreatDoor.Ph
def BT.cut (s:Nat):BT→BT
 | .nil=> .nil
 | .node r c x=>if r=s then x else .node r (c.cut s) (x.cut s)
theorem ik (s:Nat): ∀t:BT,s ∉ t.ai→t.cut s=t
 | .nil,_=>rfl
 | .node r c x,h=>by
  simp only[BT.ai,List.mem_cons,List.mem_append,not_or] at h
  rw[BT.cut,if_neg (fun e=>h.1 e.symm),ik s c h.2.1,ik s x h.2.2]
theorem mT (s:Nat) (t:BT) (h:t.root≠s):(t.cut s).root=t.root:=by
 cases t with
 |nil=>rfl
 |node r c x=>rw[BT.cut,if_neg (show¬r=s from h)];rfl
theorem cU {C A B:Nat→Nat}: ∀(t:BT) (p s:Nat),bH C A B p t→s∈t.ai→
  ((s=t.root∧A s=p)∨A s∈t.ai)∧(B s=0∨B s∈t.ai)
 | .nil,_,_,_,h=>by simp[BT.ai] at h
 | .node r c x,p,s,hl,hs=>by
  obtain⟨h1,h2,h3,h4,h5⟩:=hl
  simp only[BT.ai,List.mem_cons,List.mem_append] at hs⊢
  rcases hs with rfl|hs|hs
  ·refine⟨.inl ⟨rfl,h1⟩,?_⟩
   rw[h3]
   cases x with
   |nil=>exact .inl rfl
   |node y cy xy=>exact .inr (.inr (.inr (by simp[BT.root,BT.ai])))
  ·obtain⟨a,b⟩:=cU c r s h4 hs
   refine⟨.inr ?_,?_⟩
   ·rcases a with ⟨_,a⟩|a
    ·exact .inl a
    ·exact .inr (.inl a)
   ·rcases b with b|b
    ·exact .inl b
    ·exact .inr (.inr (.inl b))
  ·obtain⟨a,b⟩:=cU x r s h5 hs
   refine⟨.inr ?_,?_⟩
   ·rcases a with ⟨_,a⟩|a
    ·exact .inl a
    ·exact .inr (.inr a)
   ·rcases b with b|b
    ·exact .inl b
    ·exact .inr (.inr (.inr b))
def jU (C A B:Nat→Nat) (s:Nat):Nat→Nat:=if C (A s)=s then aw C (A s) (B s) else C
def iW (C A B:Nat→Nat) (s:Nat):Nat→Nat:=if C (A s)=s then B else aw B (A s) (B s)
def kA (_C A B:Nat→Nat) (s:Nat):Nat→Nat:=if B s=0 then A else aw A (B s) (A s)
theorem eZ {C A B:Nat→Nat} {s y:Nat} (h:y≠A s):jU C A B s y=C y:=by
 rw[jU];split
 ·exact af _ _ _ _ h
 ·rfl
theorem eh {C A B:Nat→Nat} {s y:Nat} (h:y≠A s):iW C A B s y=B y:=by
 rw[iW];split
 ·rfl
 ·exact af _ _ _ _ h
theorem fO {C A B:Nat→Nat} {s y:Nat} (h:B s=0∨y≠B s):kA C A B s y=A y:=by
 rw[kA];split
 ·rfl
 ·rename_i hz
  exact af _ _ _ _ (h.resolve_left hz)
theorem iV {C A B:Nat→Nat}: ∀(t:BT) (p s:Nat),bH C A B p t→(p::t.ai).Nodup→(∀y∈t.ai,y≠0)→s∈t.ai→
  bH (jU C A B s) (kA C A B s) (iW C A B s) p (t.cut s)∧(s=t.root→(t.cut s).root=B s)
 | .nil,_,_,_,_,_,h=>by simp[BT.ai] at h
 | .node r c x,p,s,hl,hn,h0,hs=>by
  obtain⟨h1,h2,h3,h4,h5⟩:=hl
  simp only[BT.ai,List.nodup_cons,List.mem_cons,List.mem_append,not_or,List.nodup_append] at hn hs
  obtain⟨⟨npr,npc,npx⟩,⟨nrc,nrx⟩,hc,hx,hcx⟩:=hn
  have h0c: ∀y∈c.ai,y≠0:=fun y hy=>h0 y (by simp[BT.ai,hy])
  have h0x: ∀y∈x.ai,y≠0:=fun y hy=>h0 y (by simp[BT.ai,hy])
  have ncr:(r::c.ai).Nodup:=List.nodup_cons.2 ⟨nrc,hc⟩
  have nxr:(r::x.ai).Nodup:=List.nodup_cons.2 ⟨nrx,hx⟩
  rcases hs with rfl|hs|hs
  ·have e:(BT.node s c x).cut s=x:=by rw[BT.cut,if_pos rfl]
   rw[e]
   refine⟨?_,fun _=>h3.symm⟩
   have hm:bH C (kA C A B s) B p x:=by
    refine kQ x s p hx (fun hr=> ?_) (fun y hy hne=>fO (.inr (by rw[h3];exact hne))) h5
    have hz:B s≠0:=by rw[h3];exact h0x _ hr
    rw[kA,if_neg hz,h3,aj,h1]
   exact aS x p (fun y hy=>⟨eZ (by rw[h1];exact fun e=>npx (e▸hy)),rfl,eh (by rw[h1];exact fun e=>npx (e▸hy))⟩) hm
  ·have hrs:r≠s:=fun e=>nrc (e▸hs)
   have nsx:s ∉ x.ai:=fun q=>hcx s hs s q rfl
   have e:(BT.node r c x).cut s= .node r (c.cut s) x:=by rw[BT.cut,if_neg hrs,ik s x nsx]
   rw[e]
   refine⟨?_,fun q=>absurd q.symm hrs⟩
   obtain⟨i1,i2⟩:=iV c r s h4 ncr h0c hs
   obtain⟨a,b⟩:=cU c r s h4 hs
   have hbx: ∀y∈x.ai,B s=0∨y≠B s:=fun y hy=>b.imp id (fun b q=>hcx _ b y hy q.symm)
   have hax: ∀y∈x.ai,y≠A s:=fun y hy q=>by
    rcases a with ⟨_,a⟩|a
    ·exact nrx (by rw[←a,←q];exact hy)
    ·exact hcx _ a y hy q.symm
   refine⟨?_,?_,?_,i1,aS x r (fun y hy=>⟨eZ (hax y hy),fO (hbx y hy),eh (hax y hy)⟩) h5⟩
   ·rw[fO (y:=r) (s:=s) (b.imp id (fun b q=>nrc (by rw[q];exact b)))];exact h1
   ·by_cases hq:s=c.root
    ·have ha:A s=r:=by
      rcases a with ⟨_,a⟩|a
      ·exact a
      ·cases c with
       |nil=>simp[BT.ai] at hs
       |node z cz xz=>rw[BT.root] at hq;rw[hq];exact h4.1
     rw[jU,if_pos (by rw[ha,h2];exact hq.symm),ha,aj,i2 hq]
    ·have ha:r≠A s:=by
      rcases a with ⟨a,_⟩|a
      ·exact absurd a hq
      ·exact fun q=>nrc (q▸a)
     rw[eZ ha,mT s c (fun q=>hq q.symm)];exact h2
   ·by_cases hq:s=c.root
    ·have ha:A s=r:=by
      cases c with
       |nil=>simp[BT.ai] at hs
       |node z cz xz=>rw[BT.root] at hq;rw[hq];exact h4.1
     rw[iW,if_pos (by rw[ha,h2];exact hq.symm)];exact h3
    ·have ha:r≠A s:=by
      rcases a with ⟨a,_⟩|a
      ·exact absurd a hq
      ·exact fun q=>nrc (q▸a)
     rw[eh ha];exact h3
  ·have hrs:r≠s:=fun e=>nrx (e▸hs)
   have nsc:s ∉ c.ai:=fun q=>hcx s q s hs rfl
   have e:(BT.node r c x).cut s= .node r c (x.cut s):=by rw[BT.cut,if_neg hrs,ik s c nsc]
   rw[e]
   refine⟨?_,fun q=>absurd q.symm hrs⟩
   obtain⟨i1,i2⟩:=iV x r s h5 nxr h0x hs
   obtain⟨a,b⟩:=cU x r s h5 hs
   have hbc: ∀y∈c.ai,B s=0∨y≠B s:=fun y hy=>b.imp id (fun b q=>hcx y hy _ b q)
   have hac: ∀y∈c.ai,y≠A s:=fun y hy q=>by
    rcases a with ⟨_,a⟩|a
    ·exact nrc (by rw[←a,←q];exact hy)
    ·exact hcx y hy _ a q
   have hcs:c.root≠s:=fun q=>by
    cases c with
    |nil=>exact h0x s hs q.symm
    |node z cz xz=>exact nsc (by rw[BT.root] at q;simp[BT.ai,q])
   refine⟨?_,?_,?_,aS c r (fun y hy=>⟨eZ (hac y hy),fO (hbc y hy),eh (hac y hy)⟩) h4,i1⟩
   ·rw[fO (y:=r) (s:=s) (b.imp id (fun b q=>nrx (by rw[q];exact b)))];exact h1
   ·by_cases ha:r=A s
    ·rw[jU,if_neg (by rw[←ha,h2];exact hcs)];exact h2
    ·rw[eZ ha];exact h2
   ·by_cases hq:s=x.root
    ·have ha:A s=r:=by
      cases x with
       |nil=>simp[BT.ai] at hs
       |node z cz xz=>rw[BT.root] at hq;rw[hq];exact h5.1
     rw[iW,if_neg (by rw[ha,h2];exact hcs),ha,aj,i2 hq]
    ·have ha:r≠A s:=by
      rcases a with ⟨a,_⟩|a
      ·exact absurd a hq
      ·exact fun q=>nrx (q▸a)
     rw[eh ha,mT s x (fun q=>hq q.symm)];exact h3
theorem eQ (s:Nat): ∀(t:BT) (y:Nat),y∈(t.cut s).ai→y∈t.ai
 | .nil,_,h=>h
 | .node r c x,y,h=>by
  rw[BT.cut] at h
  split at h
  ·simp[BT.ai,h]
  ·simp only[BT.ai,List.mem_cons,List.mem_append] at h⊢
   rcases h with h|h|h
   ·exact .inl h
   ·exact .inr (.inl (eQ s c y h))
   ·exact .inr (.inr (eQ s x y h))
theorem oV {le:Nat→Nat→Prop} (s:Nat): ∀(t:BT),Ord le t→Ord le (t.cut s)
 | .nil,_=>trivial
 | .node r c x,⟨h1,h2,h3⟩=>by
  rw[BT.cut]
  split
  ·exact h3
  ·exact⟨fun y hy=>h1 y (eQ s c y hy),oV s c h2,oV s x h3⟩
def Row (C A B:Nat→Nat):BT→Prop
 | .nil=>True
 | .node s c x=>C s=c.root∧B s=x.root∧bH C A B s c∧Row C A B x
theorem jc {C A B:Nat→Nat}: ∀(t:BT) (p:Nat),bH C A B p t→Row C A B t
 | .nil,_,_=>trivial
 | .node s _ x,_,⟨_,h2,h3,h4,h5⟩=>⟨h2,h3,h4,jc x s h5⟩
theorem dL {C A B C' A' B':Nat→Nat}: ∀(t:BT),(∀s∈t.ai,C' s=C s∧A' s=A s∧B' s=B s)→Row C A B t→Row C' A' B' t
 | .nil,_,_=>trivial
 | .node s c x,h,⟨h2,h3,h4,h5⟩=>by
  obtain⟨a1,_,a3⟩:=h s (by simp[BT.ai])
  exact⟨a1.trans h2,a3.trans h3,aS c s (fun y hy=>h y (by simp[BT.ai,hy])) h4,dL x (fun y hy=>h y (by simp[BT.ai,hy])) h5⟩
def zz (C:Nat→Nat) (p q:Nat):Nat→Nat:=aw C p q
def Ac (C A:Nat→Nat) (p q:Nat):Nat→Nat:=aw (if C p=0 then A else aw A (C p) q) q p
def rM (C B:Nat→Nat) (p q:Nat):Nat→Nat:=aw B q (C p)
theorem DO {C A B:Nat→Nat} {p q:Nat} {cp:BT} (h:C p=cp.root) {y:Nat} (h1:y≠p) (h2:y≠q) (h3:y ∉ cp.ai):
  zz C p q y=C y∧Ac C A p q y=A y∧rM C B p q y=B y:=by
 refine⟨af _ _ _ _ h1,?_,af _ _ _ _ h2⟩
 rw[Ac,af _ _ _ _ h2]
 by_cases hz:C p=0
 ·rw[if_pos hz]
 ·rw[if_neg hz,af]
  intro e
  have hne:cp≠ .nil:=fun q=>hz (by rw[h,q];rfl)
  exact h3 (by rw[e,h];exact pW hne)
theorem kK {C A B:Nat→Nat} {p q:Nat} {cp cq:BT} (p1:C p=cp.root) (p3:bH C A B p cp) (q1:C q=cq.root) (q3:bH C A B q cq) (hn:(p::q::(cq.ai++cp.ai)).Nodup) (h0: ∀s∈cp.ai,s≠0):
  bH (zz C p q) (Ac C A p q) (rM C B p q) p (.node q cq cp):=by
 have hb: ∀s∈p::(cq.ai++cp.ai),s≠q:=by
  intro s hs e
  subst e
  simp only[List.nodup_cons,List.mem_cons,List.mem_append,not_or] at hn hs
  rcases hs with hs|hs|hs
  ·exact hn.1.1 hs.symm
  ·exact hn.2.1.1 hs
  ·exact hn.2.1.2 hs
 have key:=vu (C:=C) (A:=A) (B:=aw (aw B p 0) q 0) (p:=p) (q:=q) (cp:=cp) (cq:=cq)
  ⟨p1,by rw[af _ _ _ _ (hb p (by simp)),aj],aS cp p (fun s hs=>⟨rfl,rfl,by
   rw[af _ _ _ _ (hb s (by simp[hs])),af]
   intro e;subst e;simp only[List.nodup_cons,List.mem_cons,List.mem_append,not_or] at hn;exact hn.1.2.2 hs⟩) p3⟩
  ⟨q1,aj _ _ _,aS cq q (fun s hs=>⟨rfl,rfl,by
   rw[af _ _ _ _ (hb s (by simp[hs])),af]
   intro e;subst e;simp only[List.nodup_cons,List.mem_cons,List.mem_append,not_or] at hn;exact hn.1.2.1 hs⟩) q3⟩ hn h0
 refine aS (.node q cq cp) p (fun s hs=>⟨rfl,rfl,?_⟩) key.2.2
 simp only[BT.ai,List.mem_cons,List.mem_append] at hs
 by_cases e:s=q
 ·subst e;rw[rM,aj,aj]
 ·have hsp:s≠p:=by
   intro e';subst e';simp only[List.nodup_cons,List.mem_cons,List.mem_append,not_or] at hn
   rcases hs with hs|hs|hs
   ·exact hn.1.1 hs
   ·exact hn.1.2.1 hs
   ·exact hn.1.2.2 hs
  rw[rM,af _ _ _ _ e,af _ _ _ _ e,af _ _ _ _ e,af _ _ _ _ hsp]
theorem yS {C A B:Nat→Nat} {p q:Nat} {cp cq rest m:BT} (p1:C p=cp.root) (p3:bH C A B p cp) (q1:C q=cq.root) (q3:bH C A B q cq) (hr:Row C A B rest) (hm:Row C A B m)
  (hn:(p::q::(cq.ai++cp.ai)).Nodup) (h0: ∀s∈cp.ai,s≠0)
  (hd: ∀s,s∈rest.ai∨s∈m.ai→s≠p∧s≠q∧s ∉ cp.ai):
  Row (zz C p q) (Ac C A p q) (aw (rM C B p q) p m.root) (.node p (.node q cq cp) m)∧Row (zz C p q) (Ac C A p q) (aw (rM C B p q) p m.root) rest∧
  ∀y,y≠p→y≠q→y ∉ cp.ai→zz C p q y=C y∧Ac C A p q y=A y∧aw (rM C B p q) p m.root y=B y:=by
 have hl:=kK p1 p3 q1 q3 hn h0
 have off: ∀y,y≠p→y≠q→y ∉ cp.ai→zz C p q y=C y∧Ac C A p q y=A y∧aw (rM C B p q) p m.root y=B y:=by
  intro y h1 h2 h3
  obtain⟨a,b,c⟩:=DO (A:=A) (B:=B) p1 h1 h2 h3
  exact⟨a,b,by rw[af _ _ _ _ h1];exact c⟩
 refine⟨⟨by rw[zz,aj];rfl,aj _ _ _,?_,dL m (fun s hs=> ?_) hm⟩,dL rest (fun s hs=> ?_) hr,off⟩
 ·refine aS (.node q cq cp) p (fun s hs=>⟨rfl,rfl,af _ _ _ _ ?_⟩) hl
  intro e;subst e
  simp only[BT.ai,List.nodup_cons,List.mem_cons,List.mem_append,not_or] at hn hs
  rcases hs with hs|hs|hs
  ·exact hn.1.1 hs
  ·exact hn.1.2.1 hs
  ·exact hn.1.2.2 hs
 ·obtain⟨a,b,c⟩:=hd s (.inr hs);exact off s a b c
 ·obtain⟨a,b,c⟩:=hd s (.inl hs);exact off s a b c
theorem BH {C A B:Nat→Nat} {p:Nat} {cp m:BT} (p1:C p=cp.root) (p3:bH C A B p cp) (hm:Row C A B m) (hc:p ∉ cp.ai) (hd:p ∉ m.ai):
  Row C A (aw B p m.root) (.node p cp m):=
 ⟨p1,aj _ _ _,aS cp p (fun _ hs=>⟨rfl,rfl,af _ _ _ _ (fun e=>hc (e▸hs))⟩) p3,dL m (fun _ hs=>⟨rfl,rfl,af _ _ _ _ (fun e=>hd (e▸hs))⟩) hm⟩
def BT.wide:BT→Nat
 | .nil=>0
 | .node _ _ x=>x.wide+1
open Go.RowKit
def Le (D S I:Nat→Nat) (a b:Nat):Prop:=x5 (D b) (S b) (I b) (D a) (S a) (I a)=false
theorem le_iff {D S I:Nat→Nat} {a b:Nat}:Le D S I a b↔D a<D b∨(D a=D b∧(S a<S b∨(S a=S b∧I a≤I b))):=by
 rw[Le,x5]
 by_cases h1:D b=D a
 ·rw[if_pos h1]
  by_cases h2:S b=S a
  ·rw[if_pos h2,decide_eq_false_iff_not];omega
  ·rw[if_neg h2,decide_eq_false_iff_not];omega
 ·rw[if_neg h1,decide_eq_false_iff_not];omega
theorem le_trans {D S I:Nat→Nat} (a b c:Nat) (h1:Le D S I a b) (h2:Le D S I b c):Le D S I a c:=by
 rw[le_iff] at*;omega
theorem jm {D S I:Nat→Nat} {a b:Nat} (h:x5 (D a) (S a) (I a) (D b) (S b) (I b)=true):Le D S I a b:=by
 rw[le_iff]
 rw[x5] at h
 by_cases h1:D a=D b
 ·rw[if_pos h1] at h
  by_cases h2:S a=S b
  ·rw[if_pos h2,decide_eq_true_eq] at h;omega
  ·rw[if_neg h2,decide_eq_true_eq] at h;omega
 ·rw[if_neg h1,decide_eq_true_eq] at h;omega
section
variable {w:World} {b g n rt ct:Nat} {D S I C A B:Nat→Nat} {T:Nat→Bool}
theorem qe (h:aG w b g n rt ct D S I C A B T) (p q:Nat) (hp:1≤p) (hpn:p≤n) (hq:1≤q) (hqn:q≤n) (hf:C p≤n) (hg:C q≤n) (hfq:C p≠q) (hgp:C q≠p):
  Calls Tryz.prog 218 #[.pointer (some ⟨b,0,none⟩),.int .i64 p,.int .i64 q] w fun e w'=> ∃u v:Nat,((u=p∧v=q)∨(u=q∧v=p))∧Le D S I u v∧e= .returned (.int .i64 u)∧
   aG w' b g n rt ct D S I (zz C u v) (Ac C A u v) (rM C B u v) T∧aQ b g w w':=by
 cases hb:x5 (D q) (S q) (I q) (D p) (S p) (I p) with
 |false=>
  refine(nU h p q hp hpn hq hqn hf hfq hb).mono ?_
  rintro e w' ⟨he,hr,ho⟩
  exact⟨p,q,.inl ⟨rfl,rfl⟩,hb,he,hr,ho⟩
 |true=>
  refine(ov h q p hq hqn hp hpn hg hgp hb).mono ?_
  rintro e w' ⟨he,hr,ho⟩
  exact⟨q,p,.inr ⟨rfl,rfl⟩,jm hb,he,hr,ho⟩
end
structure PI (w:World) (b g n rt ct:Nat) (D S I:Nat→Nat) (T:Nat→Bool) (L:List Nat) (C0 A0 B0:Nat→Nat) (wr:World) (t m:BT):Prop where
 lk: ∃C A B,aG wr b g n rt ct D S I C A B T∧Row C A B t∧Row C A B m∧ ∀y,y ∉ L→C y=C0 y∧A y=A0 y∧B y=B0 y
 o1:Ord (Le D S I) t
 o2:Ord (Le D S I) m
 pm:(t.ai++m.ai).Perm L
 on:aQ b g w wr
structure jQ (n:Nat) (L:List Nat):Prop where
 nd:L.Nodup
 le: ∀y∈L,1≤y∧y≤n
def mS (w:World) (g r:Nat):Nat:=match w.cell? ⟨g,r*7+5,none⟩ with
 |some v=>(intOf v).toNat
 |none=>0
def chain (w:World) (g:Nat):Nat→Nat→Nat
 |0,_=>0
 |f+1,r=>if r=0 then 0 else chain w g f (mS w g r)+1
theorem me {w:World} {b g n rt ct:Nat} {D S I C A B:Nat→Nat} {T:Nat→Bool} (h:aG w b g n rt ct D S I C A B T): ∀(t:BT) (f:Nat),Row C A B t→(∀y∈t.ai,1≤y∧y≤n)→t.wide≤f→chain w g f t.root=t.wide
 | .nil,f,_,_,_=>by
  cases f with
  |zero=>rfl
  |succ f=>rw[chain];rfl
 | .node s c x,f,hr,hs,hf=>by
  cases f with
  |zero=>simp[BT.wide] at hf
  |succ f=>
   obtain⟨h1,h2,h3,h4⟩:=hr
   obtain⟨a1,a2⟩:=hs s (by simp[BT.ai])
   have hb:mS w g s=x.root:=by
    rw[mS,h.nb s a2,h2];simp[intOf]
   rw[BT.root,chain,if_neg (by omega),hb,BT.wide,me h x f h4 (fun y hy=>hs y (by simp[BT.ai,hy])) (by rw[BT.wide] at hf;omega)]
theorem tV: ∀t:BT,t.wide≤t.ai.length
 | .nil=>Nat.le_refl _
 | .node s c x=>by have:=tV x;simp only[BT.wide,BT.ai,List.length_cons,List.length_append];omega
section
variable {w:World} {b g n rt ct:Nat} {D S I:Nat→Nat} {T:Nat→Bool} {L:List Nat} {C0 A0 B0:Nat→Nat} {wr:World} {t m:BT}
theorem PI.chain (h:PI w b g n rt ct D S I T L C0 A0 B0 wr t m) (hL:jQ n L):chain wr g L.length t.root=t.wide:=by
 obtain⟨C,A,B,hr,h1,h2,h3⟩:=h.lk
 refine me hr t _ h1 (fun y hy=>hL.le y (h.pm.mem_iff.1 (by simp[hy]))) ?_
 have:=h.pm.length_eq
 have:=tV t
 rw[List.length_append] at*
 omega
end
section
variable {w:World} {b g n rt ct:Nat} {D S I:Nat→Nat} {T:Nat→Bool} {L:List Nat} {C0 A0 B0:Nat→Nat} {wr:World} {C A B:Nat→Nat}
theorem xS {a c:Nat} {ca cc rest m:BT} (hL:jQ n L) (h1:Row C A B (.node a ca (.node c cc rest))) (h2:Row C A B m) (off: ∀y,y ∉ L→C y=C0 y∧A y=A0 y∧B y=B0 y)
  (o1:Ord (Le D S I) (.node a ca (.node c cc rest))) (o2:Ord (Le D S I) m) (pm:((BT.node a ca (.node c cc rest)).ai++m.ai).Perm L)
  {u v:Nat} (huv:(u=a∧v=c)∨(u=c∧v=a)) (hle:Le D S I u v) (hr:aG wr b g n rt ct D S I (zz C u v) (Ac C A u v) (rM C B u v) T) (ho:aQ b g w wr):
  ∃m':BT,m'.root=u∧m'.wide=m.wide+1∧PI w b g n rt ct D S I T L C0 A0 B0 (wr.setCell ⟨g,u*7+5,none⟩ (.int .i64 (m.root:Int))) rest m':=by
 obtain⟨cu,cv,p1,p3,q1,q3,hou,hov,hcu,hcv,hperm⟩: ∃cu cv:BT,C u=cu.root∧bH C A B u cu∧C v=cv.root∧bH C A B v cv∧(∀y∈cu.ai,Le D S I u y)∧(∀y∈cv.ai,Le D S I v y)∧Ord (Le D S I) cu∧Ord (Le D S I) cv∧(rest.ai++(BT.node u (.node v cv cu) m).ai).Perm L:=by
  obtain⟨a1,a2,a3,c1,c2,c3,_⟩:=h1
  obtain⟨oa,oca,oc,occ,_⟩:=o1
  rcases huv with ⟨rfl,rfl⟩|⟨rfl,rfl⟩
  ·refine⟨ca,cc,a1,a3,c1,c3,oa,oc,oca,occ,List.Perm.trans ?_ pm⟩
   rw[List.perm_iff_count]
   intro y
   simp only[BT.ai,List.count_append,List.count_cons,List.cons_append,List.append_assoc]
   omega
  ·refine⟨cc,ca,c1,c3,a1,a3,oc,oa,occ,oca,List.Perm.trans ?_ pm⟩
   rw[List.perm_iff_count]
   intro y
   simp only[BT.ai,List.count_append,List.count_cons,List.cons_append,List.append_assoc]
   omega
 have hnd:=hperm.nodup_iff.2 hL.nd
 have hmem: ∀y,y∈rest.ai++(BT.node u (.node v cv cu) m).ai→y∈L:=fun y hy=>hperm.mem_iff.1 hy
 have hrest:Row C A B rest:=h1.2.2.2.2.2.2
 have hnm:((u::v::(cv.ai++cu.ai))++m.ai).Nodup:=(List.nodup_append.1 hnd).2.1
 have hn:(u::v::(cv.ai++cu.ai)).Nodup:=(List.nodup_append.1 hnm).1
 have hd: ∀s,s∈rest.ai∨s∈m.ai→s≠u∧s≠v∧s ∉ cu.ai:=by
  intro s hs
  rcases hs with hs|hs
  ·have hy:=(List.nodup_append.1 hnd).2.2 s hs
   exact⟨fun e=>hy u (by simp[BT.ai]) e,fun e=>hy v (by simp[BT.ai]) e,fun e=>hy s (by simp[BT.ai,e]) rfl⟩
  ·have hy: ∀y∈u::v::(cv.ai++cu.ai),y≠s:=fun y h=>(List.nodup_append.1 hnm).2.2 y h s hs
   exact⟨fun e=>hy u (by simp) e.symm,fun e=>hy v (by simp) e.symm,fun e=>hy s (by simp[e]) rfl⟩
 have hz: ∀s∈cu.ai,s≠0:=fun s hs=>by
  have:=(hL.le s (hmem s (by simp[BT.ai,hs]))).1;omega
 obtain⟨k1,k2,k3⟩:=yS p1 p3 q1 q3 hrest h2 hn hz hd
 have uL:u∈L:=hmem u (by simp[BT.ai])
 have vL:v∈L:=hmem v (by simp[BT.ai])
 refine⟨.node u (.node v cv cu) m,rfl,rfl,⟨⟨_,_,_,hr.fN u (hL.le u uL).2 m.root,k2,k1,fun y hy=> ?_⟩,o1.2.2.2.2,?_,hperm,ho.set _ _ (Or.inr rfl)⟩⟩
 ·obtain⟨x1,x2,x3⟩:=k3 y (fun e=>hy (e▸uL)) (fun e=>hy (e▸vL)) (fun e=>hy (hmem y (by simp[BT.ai,e])))
  obtain⟨z1,z2,z3⟩:=off y hy
  exact⟨x1.trans z1,x2.trans z2,x3.trans z3⟩
 ·obtain⟨j1,j2⟩:=gT le_trans hle hou hov hcu hcv
  exact⟨j1,j2,o2⟩
theorem zE {a:Nat} {ca m:BT} (hL:jQ n L) (h1:Row C A B (.node a ca .nil)) (h2:Row C A B m) (off: ∀y,y ∉ L→C y=C0 y∧A y=A0 y∧B y=B0 y)
  (o1:Ord (Le D S I) (.node a ca .nil)) (o2:Ord (Le D S I) m) (pm:((BT.node a ca .nil).ai++m.ai).Perm L) (hr:aG wr b g n rt ct D S I C A B T) (ho:aQ b g w wr):
  PI w b g n rt ct D S I T L C0 A0 B0 (wr.setCell ⟨g,a*7+5,none⟩ (.int .i64 (m.root:Int))) .nil (.node a ca m):=by
 have hnd:=pm.nodup_iff.2 hL.nd
 have aL:a∈L:=pm.mem_iff.1 (by simp[BT.ai])
 obtain⟨a1,a2,a3,_⟩:=h1
 refine⟨⟨_,_,_,hr.fN a (hL.le a aL).2 m.root,trivial,BH a1 a3 h2 ?_ ?_,fun y hy=> ?_⟩,trivial,⟨o1.1,o1.2.1,o2⟩,?_,ho.set _ _ (Or.inr rfl)⟩
 ·simp only[BT.ai,List.append_nil,List.cons_append,List.nodup_cons,List.mem_append,not_or] at hnd;exact hnd.1.1
 ·simp only[BT.ai,List.append_nil,List.cons_append,List.nodup_cons,List.mem_append,not_or] at hnd;exact hnd.1.2
 ·obtain⟨z1,z2,z3⟩:=off y hy
  exact⟨z1,z2,(af B a m.root y (fun e=>hy (e▸aL))).trans z3⟩
 ·simpa [BT.ai] using pm
end
attribute [local go_sem ↓] Go.wp_at_zero Go.wp_at_succ
def Gw (W:Nat) (t m:BT):Prop:=W≤t.wide+2*m.wide∧1≤W∧(t.wide+2*m.wide≤W∨(t= .nil∧3≤W∧2*m.wide≤W+1))
theorem PI.turn {w:World} {b g n rt ct:Nat} {D S I C0 A0 B0:Nat→Nat} {T:Nat→Bool} {L:List Nat} {wr:World} {m:BT} (h:PI w b g n rt ct D S I T L C0 A0 B0 wr .nil m):PI w b g n rt ct D S I T L C0 A0 B0 wr m .nil:=by
 obtain⟨C,A,B,h1,h2,h3,h4⟩:=h.lk
 exact⟨⟨C,A,B,h1,h3,h2,h4⟩,h.o2,h.o1,by simpa [BT.ai] using h.pm,h.on⟩
section
variable {w:World} {b g n rt ct:Nat} {D S I C A B:Nat→Nat} {T:Nat→Bool}
theorem rI (t0:BT) (L:List Nat) (hL:jQ n L) (hB0:B 0=0) (h0:PI w b g n rt ct D S I T L C A B w t0 .nil):
  Calls Tryz.prog 216 #[.pointer (some ⟨b,0,none⟩),.int .i64 (t0.root:Int)] w fun e w'=> ∃t:BT,t.wide≤1∧e= .returned (.int .i64 (t.root:Int))∧PI w b g n rt ct D S I T L C A B w' t .nil:=by
 have HL:=aa hL
 have HB0:=aa hB0
 have H0:=aa h0
 clear h0 hL hB0
 go_enter Tryz.func216,Tryz.ntmps216
 go_wp2
 go_step3
 go_wp2
 go_step3
 go_wp2
 go_loopw [1] (fun i wr=> ∃t:BT,i= .int .i64 (t.root:Int)∧Hid (PI w b g n rt ct D S I T L C A B wr t .nil)) (fun i wr=>chain wr g L.length (intOf i).toNat)
 case atStart=>exact⟨t0,rfl,H0⟩
 case round=>
  obtain⟨t,rfl,ht⟩:=hrel
  cases t with
  |nil=>
   have HN:Hid ((BT.nil).root=0):=aa rfl
   have hz:(((BT.nil).root:Nat):Int)=0:=rfl
   rw[hz]
   go_wp2
   rw[Exit.noGoto_ret]
   go_ret
   exact⟨.nil,by simp[BT.wide],rfl,ht.out⟩
  |node a ca x=>
   have ha:=HL.out.le a (ht.out.pm.mem_iff.1 (by simp[BT.ai]))
   have hai: ¬(a:Int)=0:=by omega
   have hroot:(((BT.node a ca x).root:Nat):Int)=(a:Int):=rfl
   have HW:=aa (ht.out.chain HL.out)
   have hab:((a:Int) !=0)=true:=by rw[bne_iff_ne];exact hai
   rw[hroot]
   go_wp2
   clear hab
   go_loopw [1,5] (fun i k wr2=> ∃t m:BT,i= .int .i64 (t.root:Int)∧k= .int .i64 (m.root:Int)∧Hid (PI w b g n rt ct D S I T L C A B wr2 t m)∧Hid (Gw (BT.node a ca x).wide t m)) (fun i _ wr2=>chain wr2 g L.length (intOf i).toNat)
   case atStart=>exact⟨.node a ca x,.nil,rfl,rfl,ht,by refine⟨?_,?_,.inl ?_⟩<;>simp[BT.wide]⟩
   case round=>
    obtain⟨t,m,rfl,rfl,hp,hc⟩:=hrel
    cases t with
    |nil=>
     have hz:(((BT.nil).root:Nat):Int)=0:=rfl
     rw[hz]
     go_wp2
     have hp':=hp.out.turn
     refine⟨⟨m,rfl,hp'⟩,?_⟩
     have e1:(intOf (Value.int IntKind.i64 (m.root:Int))).toNat=m.root:=by simp[intOf]
     have e2:(intOf (Value.int IntKind.i64 (a:Int))).toNat=(BT.node a ca x).root:=by simp[intOf,BT.root]
     rw[e1,e2,HW.out,hp'.chain HL.out]
     obtain⟨q1,q2,q3⟩:=hc.out
     simp only[BT.wide] at q1 q2 q3⊢
     rcases q3 with q3|⟨_,q3,q4⟩<;>omega
    |node r cr rest=>
     have hrr:=HL.out.le r (hp.out.pm.mem_iff.1 (by simp[BT.ai]))
     have hri: ¬(r:Int)=0:=by omega
     have hroot2:(((BT.node r cr rest).root:Nat):Int)=(r:Int):=rfl
     have HM:=aa (hp.out.chain HL.out)
     obtain⟨C1,A1,B1,hR,hrow,hrm,hoff⟩:=hp.out.lk
     obtain⟨cp,e0⟩:=hR.sl
     have e1:=hR.nb r hrr.2
     have e2:=hrow.2.1
     rw[e2] at e1
     have rl:r<n+1:=by omega
     have fg:=hR.fg
     have HR:=aa hR
     have HRow:=aa hrow
     have HRm:=aa hrm
     have HOff:=aa hoff
     clear hR hrow hrm hoff e2
     rw[hroot2]
     cases rest with
     |nil=>
      have e1':wr.cell? ⟨g,r*7+5,none⟩=some (.int .i64 0):=e1
      clear e1
      cases m with
      |nil=>
       have hz:(((BT.nil).root:Nat):Int)=0:=rfl
       rw[hz]
       go_wp2
       go_quiet (fail)
       go_wp2
       show Exit.noGoto _ Exit.ret _ _
       rw[Exit.noGoto_ret]
       go_ret
       exact⟨.node r cr .nil,by simp[BT.wide],rfl,⟨⟨C1,A1,B1,HR.out.drewN _,HRow.out,trivial,HOff.out⟩,hp.out.o1,trivial,hp.out.pm,hp.out.on.drewN _⟩⟩
      |node mr mc mx=>
       have hmm:=HL.out.le mr (hp.out.pm.mem_iff.1 (by simp[BT.ai]))
       have hmi: ¬(mr:Int)=0:=by omega
       have hroot3:(((BT.node mr mc mx).root:Nat):Int)=(mr:Int):=rfl
       have z1:wr.cell? ⟨g,0*7+5,none⟩=some (.int .i64 0):=by
        have:=HR.out.nb 0 (Nat.zero_le _)
        rw[((HOff.out 0 (fun hh=>by have:=(HL.out.le 0 hh).1;omega)).2.2).trans HB0.out] at this
        exact this
       have z2:wr.cell? ⟨g,5,none⟩=some (.int .i64 0):=z1
       clear z1
       rw[hroot3]
       go_wp2
       go_quiet (fail)
       go_wp2_with (go_at_call 218;refine(mU r hrr.1 _ b).mono ?_;rintro e w3 ⟨rfl,hw⟩;replace hw:=hw.symm;subst hw)
       have HS:=aa (zE HL.out HRow.out HRm.out HOff.out hp.out.o1 hp.out.o2 hp.out.pm (HR.out.drewN nq) (hp.out.on.drewN nq))
       go_roundw
       case rel=>
        exact⟨BT.nil,.node r cr (.node mr mc mx),rfl,rfl,HS,by
         obtain⟨q1,q2,q3⟩:=hc.out
         rcases q3 with q3|⟨q3,_⟩
         ·simp only[Gw,BT.wide] at*
          refine⟨?_,?_,.inr ⟨trivial,?_,?_⟩⟩<;>omega
         ·exact absurd q3 (by simp)⟩
       case measure=>
        have e1:(intOf (Value.int IntKind.i64 (r:Int))).toNat=(BT.node r cr .nil).root:=by simp[intOf,BT.root]
        have e2:(intOf (Value.int IntKind.i64 0)).toNat=(BT.nil).root:=by simp[intOf,BT.root]
        have hs:=HS.out.chain HL.out
        have hm:=HM.out
        rw[←e2] at hs
        rw[←e1] at hm
        show chain _ g L.length (intOf (Value.int IntKind.i64 0)).toNat<chain wr g L.length (intOf (Value.int IntKind.i64 (r:Int))).toNat
        have hs':chain ((wr.drewN nq).setCell ⟨g,r*7+5,none⟩ (Value.int IntKind.i64 (mr:Int))) g L.length (intOf (Value.int IntKind.i64 0)).toNat=_:=hs
        rw[hs',hm]
        simp[BT.wide]
     |node r2 cr2 rest2=>
      have hr2:=HL.out.le r2 (hp.out.pm.mem_iff.1 (by simp[BT.ai]))
      have hr2i: ¬(r2:Int)=0:=by omega
      have r2l:r2<n+1:=by omega
      have e1':wr.cell? ⟨g,r*7+5,none⟩=some (.int .i64 (r2:Int)):=e1
      have e3:=HR.out.nb r2 hr2.2
      have e4:=HRow.out.2.2.2.2.1
      rw[e4] at e3
      clear e1 e4
      have hle: ∀(c:BT),(∀y∈c.ai,y∈L)→c.root≤n:=fun c h=>by
       cases c with
       |nil=>exact Nat.zero_le _
       |node s _ _=>exact(HL.out.le s (h s (by simp[BT.ai]))).2
      have hnd:=hp.out.pm.nodup_iff.2 HL.out.nd
      have hne: ∀(c:BT) (q:Nat),q ∉ c.ai→q≠0→c.root≠q:=fun c q h h0 e=>by
       cases c with
       |nil=>exact h0 e.symm
       |node s _ _=>rw[BT.root] at e;exact h (by simp[BT.ai,e])
      have hmem: ∀y,y∈(BT.node r cr (.node r2 cr2 rest2)).ai→y∈L:=fun y hy=>hp.out.pm.mem_iff.1 (List.mem_append.2 (.inl hy))
      have k1:C1 r≤n:=by rw[HRow.out.1];exact hle cr (fun y hy=>hmem y (by simp[BT.ai,hy]))
      have k2:C1 r2≤n:=by rw[HRow.out.2.2.2.1];exact hle cr2 (fun y hy=>hmem y (by simp[BT.ai,hy]))
      have nd1:=(List.nodup_append.1 hnd).1
      simp only[BT.ai,List.nodup_cons,List.nodup_append,List.mem_cons,List.mem_append,not_or] at nd1
      have k3:C1 r≠r2:=by rw[HRow.out.1];exact hne cr r2 (fun hh=>nd1.2.2.2 r2 hh r2 (by simp) rfl) (by omega)
      have k4:C1 r2≠r:=by rw[HRow.out.2.2.2.1];exact hne cr2 r nd1.1.2.2.1 (by omega)
      have HJ:Hid (∀w1,aG w1 b g n rt ct D S I C1 A1 B1 T→_):=fun w1 hh=>qe hh r r2 hrr.1 hrr.2 hr2.1 hr2.2 k1 k2 k3 k4
      clear k1 k2 k3 k4 nd1 hne hle hmem hnd
      go_wp2
      go_quiet (fail)
      go_wp2_with (go_at_call 218;refine(HJ.out _ (HR.out.drewN nq)).mono ?_;rintro e w3 ⟨u,v,huv,hle,rfl,hr3,ho3⟩;obtain⟨cp3,e30⟩:=hr3.sl;have fg3:=hr3.fg;have ul:u<n+1:=(by rcases huv with ⟨hu,_⟩|⟨hu,_⟩<;>rw[hu]<;>omega);have e31:=hr3.nb u (by omega);have HR3:=aa hr3;have HO3:=aa ho3;have HUV:=aa huv;have HLE:=aa hle;clear hr3 ho3 huv hle)
      have HS:=aa (xS HL.out HRow.out HRm.out HOff.out hp.out.o1 hp.out.o2 hp.out.pm HUV.out HLE.out HR3.out ((hp.out.on.drewN nq).trans HO3.out))
      obtain⟨m',hm1,hm2,hm3⟩:=HS.out
      go_roundw
      case rel=>
       exact⟨rest2,m',rfl,by rw[hm1],hm3,by
        obtain⟨q1,q2,q3⟩:=hc.out
        rcases q3 with q3|⟨q3,_⟩
        ·simp only[Gw,BT.wide] at*
         refine⟨?_,?_,.inl ?_⟩<;>omega
        ·exact absurd q3 (by simp)⟩
      case measure=>
       have e1:(intOf (Value.int IntKind.i64 (r:Int))).toNat=(BT.node r cr (.node r2 cr2 rest2)).root:=by simp[intOf,BT.root]
       have e2:(intOf (Value.int IntKind.i64 (rest2.root:Int))).toNat=rest2.root:=by simp[intOf]
       have hs:=hm3.chain HL.out
       have hm:=HM.out
       rw[←e2] at hs
       rw[←e1] at hm
       show chain (w3.setCell ⟨g,u*7+5,none⟩ (Value.int IntKind.i64 (m.root:Int))) g L.length (intOf (Value.int IntKind.i64 (rest2.root:Int))).toNat<chain wr g L.length (intOf (Value.int IntKind.i64 (r:Int))).toNat
       rw[hs,hm]
       simp only[BT.wide]
       omega
end
end Go.Proofs.YtdbailcdlngemaaGreatDoor.Ph
namespace Go.Proofs.YtdbailcdlngemaaGreatDoor.Ph
theorem fW {C A B:Nat→Nat} {le:Nat→Nat→Prop} (x:Nat): ∀(t:BT) (p:Nat),bH C A B p t→t.ai.Nodup→x∈t.ai→
  ∃cx:BT,C x=cx.root∧bH C A B x cx∧((t.cut x).ai++x::cx.ai).Perm t.ai∧(Ord le t→Ord le cx)
 | .nil,_,_,_,h=>by simp[BT.ai] at h
 | .node r c y,p,hl,hn,hx=>by
  obtain⟨h1,h2,h3,h4,h5⟩:=hl
  simp only[BT.ai,List.nodup_cons,List.mem_cons,List.mem_append,not_or,List.nodup_append] at hn hx
  obtain⟨⟨nrc,nry⟩,hc,hy,hcy⟩:=hn
  rcases hx with rfl|hx|hx
  ·refine⟨c,h2,h4,?_,fun o=>o.2.1⟩
   rw[BT.cut,if_pos rfl,List.perm_iff_count]
   intro z
   simp only[BT.ai,List.count_append,List.count_cons]
   omega
  ·have hrs:r≠x:=fun e=>nrc (e▸hx)
   have nsx:x ∉ y.ai:=fun q=>hcy x hx x q rfl
   obtain⟨cx,k1,k2,k3,k4⟩:=fW x c r h4 hc hx
   refine⟨cx,k1,k2,?_,fun o=>k4 o.2.1⟩
   rw[BT.cut,if_neg hrs,ik x y nsx]
   rw[List.perm_iff_count] at k3⊢
   intro z
   have:=k3 z
   simp only[BT.ai,List.count_append,List.count_cons] at this⊢
   omega
  ·have hrs:r≠x:=fun e=>nry (e▸hx)
   have nsc:x ∉ c.ai:=fun q=>hcy x q x hx rfl
   obtain⟨cx,k1,k2,k3,k4⟩:=fW x y r h5 hy hx
   refine⟨cx,k1,k2,?_,fun o=>k4 o.2.2⟩
   rw[BT.cut,if_neg hrs,ik x c nsc]
   rw[List.perm_iff_count] at k3⊢
   intro z
   have:=k3 z
   simp only[BT.ai,List.count_append,List.count_cons] at this⊢
   omega
theorem fw {C A B:Nat→Nat} (s:Nat): ∀(t:BT) (p:Nat),bH C A B p t→t.ai.Nodup→s∈t.ai→
  (A s=p∨A s∈(t.cut s).ai)∧(B s=0∨B s∈(t.cut s).ai)
 | .nil,_,_,_,h=>by simp[BT.ai] at h
 | .node r c y,p,hl,hn,hx=>by
  obtain⟨h1,h2,h3,h4,h5⟩:=hl
  simp only[BT.ai,List.nodup_cons,List.mem_cons,List.mem_append,not_or,List.nodup_append] at hn hx
  obtain⟨⟨nrc,nry⟩,hc,hy,hcy⟩:=hn
  rcases hx with rfl|hx|hx
  ·refine⟨.inl h1,?_⟩
   rw[BT.cut,if_pos rfl,h3]
   cases y with
   |nil=>exact .inl rfl
   |node z cz xz=>exact .inr (by simp[BT.root,BT.ai])
  ·have hrs:r≠s:=fun e=>nrc (e▸hx)
   obtain⟨a,b⟩:=fw s c r h4 hc hx
   rw[BT.cut,if_neg hrs]
   simp only[BT.ai,List.mem_cons,List.mem_append]
   exact⟨.inr (a.imp id .inl),b.imp id (fun q=> .inr (.inl q))⟩
  ·have hrs:r≠s:=fun e=>nry (e▸hx)
   obtain⟨a,b⟩:=fw s y r h5 hy hx
   rw[BT.cut,if_neg hrs]
   simp only[BT.ai,List.mem_cons,List.mem_append]
   exact⟨.inr (a.imp id .inr),b.imp id (fun q=> .inr (.inr q))⟩
theorem wi {C A B C1 A1 B1:Nat→Nat} {p x:Nat} {c:BT} {L:List Nat} (hl:bH C A B p c) (hC:C p=c.root) (hB:B p=0) (hn:(p::c.ai).Nodup) (h0: ∀y∈p::c.ai,y≠0) (hx:x∈c.ai)
  (hperm:((c.cut x).ai++x::L).Perm c.ai) (off: ∀y,y ∉ L→C1 y=C y∧A1 y=A y∧B1 y=B y):
  Row (jU C1 A1 B1 x) (kA C1 A1 B1 x) (iW C1 A1 B1 x) (.node p (c.cut x) .nil)∧ ∀y,y∈L→jU C1 A1 B1 x y=C1 y∧kA C1 A1 B1 x y=A1 y∧iW C1 A1 B1 x y=B1 y:=by
 have hnc:=(List.nodup_cons.1 hn).2
 have hpc:=(List.nodup_cons.1 hn).1
 have hnp:=hperm.nodup_iff.2 hnc
 have hLc: ∀y∈L,y∈c.ai:=fun y hy=>hperm.mem_iff.1 (by simp[hy])
 have hdis: ∀y∈(c.cut x).ai,y ∉ L:=fun y hy hh=>(List.nodup_append.1 hnp).2.2 y hy y (by simp[hh]) rfl
 have hxL:x ∉ L:=(List.nodup_cons.1 (List.nodup_append.1 hnp).2.1).1
 have hpL:p ∉ L:=fun hh=>hpc (hLc p hh)
 have h0L:0 ∉ L:=fun hh=>h0 0 (by simp[hLc 0 hh]) rfl
 obtain⟨k1,k2⟩:=iV c p x hl hn (fun y hy=>h0 y (by simp[hy])) hx
 obtain⟨a,b⟩:=fw x c p hl hnc hx
 have haL:A x ∉ L:=by
  rcases a with a|a
  ·rw[a];exact hpL
  ·exact hdis _ a
 have hbL:B x ∉ L:=by
  rcases b with b|b
  ·rw[b];exact h0L
  ·exact hdis _ b
 have eA:A1 x=A x:=(off x hxL).2.1
 have eB:B1 x=B x:=(off x hxL).2.2
 have eC:C1 (A x)=C (A x):=(off _ haL).1
 have key: ∀y,y ∉ L→jU C1 A1 B1 x y=jU C A B x y∧kA C1 A1 B1 x y=kA C A B x y∧iW C1 A1 B1 x y=iW C A B x y:=by
  intro y hy
  obtain⟨o1,o2,o3⟩:=off y hy
  simp only[jU,kA,iW,eA,eB,eC]
  refine⟨?_,?_,?_⟩
  ·split
   ·simp only[aw,o1]
   ·exact o1
  ·split
   ·exact o2
   ·simp only[aw,o2]
  ·split
   ·exact o3
   ·simp only[aw,o3]
 have hm:=aS (c.cut x) p (fun y hy=>key y (hdis y hy)) k1
 have kp:=key p hpL
 have hnear:=(cU c p x hl hx).1
 refine⟨⟨?_,?_,hm,trivial⟩,fun y hy=>⟨?_,?_,?_⟩⟩
 ·rw[kp.1]
  by_cases hq:x=c.root
  ·have ha:A x=p:=by
    cases c with
    |nil=>simp[BT.ai] at hx
    |node z cz xz=>rw[BT.root] at hq;rw[hq];exact hl.1
   rw[jU,if_pos (by rw[ha,hC];exact hq.symm),ha,aj,k2 hq]
  ·rw[eZ,mT x c (fun q=>hq q.symm)]
   ·exact hC
   ·rcases hnear with ⟨q,_⟩|q
    ·exact absurd q hq
    ·exact fun e=>hpc (e▸q)
 ·rw[kp.2.2]
  by_cases hq:x=c.root
  ·have ha:A x=p:=by
    cases c with
    |nil=>simp[BT.ai] at hx
    |node z cz xz=>rw[BT.root] at hq;rw[hq];exact hl.1
   rw[iW,if_pos (by rw[ha,hC];exact hq.symm)];exact hB
  ·rw[eh]
   ·exact hB
   ·rcases hnear with ⟨q,_⟩|q
    ·exact absurd q hq
    ·exact fun e=>hpc (e▸q)
 ·exact eZ (by rw[eA];exact fun e=>haL (e▸hy))
 ·exact fO (.inr (by rw[eB];exact fun e=>hbL (e▸hy)))
 ·exact eh (by rw[eA];exact fun e=>haL (e▸hy))
open Go.RowKit
attribute [local go_sem ↓] Go.wp_at_zero Go.wp_at_succ
section
variable {w:World} {b g n rt ct:Nat} {D S I C A B:Nat→Nat} {T:Nat→Bool}
theorem sg (h:aG w b g n rt (ct+1) D S I C A B T) (x:Nat) (hx:x=rt) (hxn:x≤n) (hct:ct≤1024) (Q:Nat→(Nat→Nat)→(Nat→Nat)→(Nat→Nat)→Prop)
  (hP:Calls Tryz.prog 216 #[.pointer (some ⟨b,0,none⟩),.int .i64 (C x:Int)] w fun e w'=> ∃(r:Nat) (C1 A1 B1:Nat→Nat),e= .returned (.int .i64 (r:Int))∧aG w' b g n rt (ct+1) D S I C1 A1 B1 T∧aQ b g w w'∧Q r C1 A1 B1):
  Calls Tryz.prog 199 #[.pointer (some ⟨b,0,none⟩),.int .i64 (x:Int)] w fun e w'=> ∃(r:Nat) (C1 A1 B1:Nat→Nat),e= .returned (.tuple #[])∧aG w' b g n r ct (aw D x 0) (aw S x 0) (aw I x 0) (aw C1 x 0) (aw A1 x 0) (aw B1 x 0) (aw T x false)∧aQ b g w w'∧Q r C1 A1 B1:=by
 subst hx
 obtain⟨cp,e0⟩:=h.sl
 have c1:=h.nc x hxn
 have xl:x<n+1:=by omega
 have hbg:=h.bg
 have hgb:g≠b:=fun e=>hbg e.symm
 have HP:=aa hP
 clear h hP
 go_enter Tryz.func199,Tryz.ntmps199
 go_wp2_with (go_at_call 216;refine(HP.out).mono ?_;rintro e w1 ⟨r,C1,A1,B1,rfl,hr,ho,hq⟩;obtain⟨cp1,e1⟩:=hr.sl;have r1:=hr.rt;have r2:=hr.ct;have m0:=hr.nd x hxn;have m1:=hr.ns x hxn;have m2:=hr.ni x hxn;have m3:=hr.nc x hxn;have m4:=hr.na x hxn;have m5:=hr.nb x hxn;have m6:=hr.nt x hxn;have fb:=hr.fb;have fg:=hr.fg;have HR:=aa hr;have HO:=aa ho;have HQ:=aa hq;clear hr ho hq)
 go_end0
 refine⟨r,C1,A1,B1,rfl,((oA (HR.out.qT r) x hxn).C9 ct),?_,HQ.out⟩
 exact(((((((((HO.out.set ⟨b,1,none⟩ _ (Or.inl rfl)).set ⟨g,x*7,none⟩ _ (Or.inr rfl)).set ⟨g,x*7+1,none⟩ _ (Or.inr rfl)).set ⟨g,x*7+2,none⟩ _ (Or.inr rfl)).set ⟨g,x*7+3,none⟩ _ (Or.inr rfl)).set ⟨g,x*7+4,none⟩ _ (Or.inr rfl)).set ⟨g,x*7+5,none⟩ _ (Or.inr rfl)).set ⟨g,x*7+6,none⟩ _ (Or.inr rfl)).set ⟨b,2,none⟩ _ (Or.inl rfl))
theorem qm (h:aG w b g n rt (ct+1) D S I C A B T) (x:Nat) (hx:x≠rt) (hxn:x≤n) (hct:ct≤1024) (Q Q2:Nat→(Nat→Nat)→(Nat→Nat)→(Nat→Nat)→Prop)
  (hP:Calls Tryz.prog 216 #[.pointer (some ⟨b,0,none⟩),.int .i64 (C x:Int)] w fun e w'=> ∃(r:Nat) (C1 A1 B1:Nat→Nat),e= .returned (.int .i64 (r:Int))∧aG w' b g n rt (ct+1) D S I C1 A1 B1 T∧aQ b g w w'∧Q r C1 A1 B1)
  (hQ: ∀(r:Nat) (C1 A1 B1:Nat→Nat),Q r C1 A1 B1→A1 x≤n∧B1 x≤n)
  (hJ: ∀(w2:World) (r:Nat) (C1 A1 B1:Nat→Nat),Q r C1 A1 B1→aG w2 b g n rt (ct+1) D S I (jU C1 A1 B1 x) (kA C1 A1 B1 x) (iW C1 A1 B1 x) T→Calls Tryz.prog 218 #[.pointer (some ⟨b,0,none⟩),.int .i64 (rt:Int),.int .i64 (r:Int)] w2 fun e w'=> ∃(r2:Nat) (C2 A2 B2:Nat→Nat),e= .returned (.int .i64 (r2:Int))∧aG w' b g n rt (ct+1) D S I C2 A2 B2 T∧aQ b g w2 w'∧Q2 r2 C2 A2 B2):
  Calls Tryz.prog 199 #[.pointer (some ⟨b,0,none⟩),.int .i64 (x:Int)] w fun e w'=> ∃(r:Nat) (C1 A1 B1:Nat→Nat),e= .returned (.tuple #[])∧aG w' b g n r ct (aw D x 0) (aw S x 0) (aw I x 0) (aw C1 x 0) (aw A1 x 0) (aw B1 x 0) (aw T x false)∧aQ b g w w'∧Q2 r C1 A1 B1:=by
 obtain⟨cp,e0⟩:=h.sl
 have c1:=h.nc x hxn
 have xl:x<n+1:=by omega
 have xr: ¬(x:Int)=(rt:Int):=by omega
 have hbg:=h.bg
 have hgb:g≠b:=fun e=>hbg e.symm
 have HP:=aa hP
 have HJ:=aa hJ
 have HC:Hid (∀(w1:World) (r:Nat) (C1 A1 B1:Nat→Nat),Q r C1 A1 B1→aG w1 b g n rt (ct+1) D S I C1 A1 B1 T→Calls Tryz.prog 217 #[.pointer (some ⟨b,0,none⟩),.int .i64 x] w1 fun e w'=>e= .returned (.tuple #[])∧aG w' b g n rt (ct+1) D S I (jU C1 A1 B1 x) (kA C1 A1 B1 x) (iW C1 A1 B1 x) T∧aQ b g w1 w'):=
  fun w1 r C1 A1 B1 hq hr=>Aw hr x (A1 x) (B1 x) hxn (hQ r C1 A1 B1 hq).1 (hQ r C1 A1 B1 hq).2 rfl rfl
 clear h hP hQ hJ
 go_enter Tryz.func199,Tryz.ntmps199
 go_wp2_with (first
  |(go_at_call 216;refine(HP.out).mono ?_;rintro e w1 ⟨r,C1,A1,B1,rfl,hr,ho,hq⟩;have r1:=hr.rt;have HR1:=aa hr;have HO1:=aa ho;have HQ1:=aa hq;clear hr ho hq)
  |(go_at_call 217;refine(HC.out _ r C1 A1 B1 HQ1.out HR1.out).mono ?_;rintro e w2 ⟨rfl,hr,ho⟩;have r12:=hr.rt;have HR2:=aa hr;have HO2:=aa (HO1.out.trans ho);clear hr ho)
  |(go_at_call 218;refine(HJ.out _ r C1 A1 B1 HQ1.out HR2.out).mono ?_;rintro e w3 ⟨r3,C2,A2,B2,rfl,hr,ho,hq⟩;obtain⟨cp1,e1⟩:=hr.sl;have r13:=hr.rt;have r2:=hr.ct;have m0:=hr.nd x hxn;have m1:=hr.ns x hxn;have m2:=hr.ni x hxn;have m3:=hr.nc x hxn;have m4:=hr.na x hxn;have m5:=hr.nb x hxn;have m6:=hr.nt x hxn;have fb:=hr.fb;have fg:=hr.fg;have HR3:=aa hr;have HO3:=aa (HO2.out.trans ho);have HQ3:=aa hq;clear hr ho hq))
 go_end0
 refine⟨r3,C2,A2,B2,rfl,((oA (HR3.out.qT r3) x hxn).C9 ct),?_,HQ3.out⟩
 exact(((((((((HO3.out.set ⟨b,1,none⟩ _ (Or.inl rfl)).set ⟨g,x*7,none⟩ _ (Or.inr rfl)).set ⟨g,x*7+1,none⟩ _ (Or.inr rfl)).set ⟨g,x*7+2,none⟩ _ (Or.inr rfl)).set ⟨g,x*7+3,none⟩ _ (Or.inr rfl)).set ⟨g,x*7+4,none⟩ _ (Or.inr rfl)).set ⟨g,x*7+5,none⟩ _ (Or.inr rfl)).set ⟨g,x*7+6,none⟩ _ (Or.inr rfl)).set ⟨b,2,none⟩ _ (Or.inl rfl))
end
end Go.Proofs.YtdbailcdlngemaaGreatDoor.Ph
namespace Go.Proofs.YtdbailcdlngemaaGreatDoor.Ph
open Go.RowKit
structure dF (w:World) (b g n:Nat) (D S I:Nat→Nat) (T:Nat→Bool) (t:BT):Prop where
 lk: ∃C A B,aG w b g n t.root t.ai.length D S I C A B T∧Row C A B t∧B 0=0
 wd:t.wide≤1
 od:Ord (Le D S I) t
 sp:jQ n t.ai
 th: ∀y,y≤n→(T y=true↔y∈t.ai)
 id: ∀y∈t.ai,I y+1=y
theorem iD {le le':Nat→Nat→Prop}: ∀t:BT,(∀a∈t.ai,∀c∈t.ai,le a c→le' a c)→Ord le t→Ord le' t
 | .nil,_,_=>trivial
 | .node s c x,h,⟨h1,h2,h3⟩=>
  ⟨fun y hy=>h s (by simp[BT.ai]) y (by simp[BT.ai,hy]) (h1 y hy),iD c (fun a ha d hd=>h a (by simp[BT.ai,ha]) d (by simp[BT.ai,hd])) h2,iD x (fun a ha d hd=>h a (by simp[BT.ai,ha]) d (by simp[BT.ai,hd])) h3⟩
theorem xc {D S I:Nat→Nat} {x a c:Nat} {d s i:Nat} (ha:a≠x) (hc:c≠x) (h:Le D S I a c):Le (aw D x d) (aw S x s) (aw I x i) a c:=by
 rw[Le] at*
 rw[af _ _ _ _ ha,af _ _ _ _ ha,af _ _ _ _ ha,af _ _ _ _ hc,af _ _ _ _ hc,af _ _ _ _ hc];exact h
section
variable {w:World} {b g n:Nat} {D S I:Nat→Nat} {T:Nat→Bool} {t:BT}
theorem mz {w':World} {x ct:Nat} {t':BT} {C A B:Nat→Nat} (h:dF w b g n D S I T t) (hx:x∈t.ai) (hp:(x::t'.ai).Perm t.ai) (hw:t'.wide≤1) (hr:Row C A B t') (ho:Ord (Le D S I) t') (hB:B 0=0) (hct:t.ai.length=ct+1)
  (hR:aG w' b g n t'.root ct (aw D x 0) (aw S x 0) (aw I x 0) (aw C x 0) (aw A x 0) (aw B x 0) (aw T x false)):
  dF w' b g n (aw D x 0) (aw S x 0) (aw I x 0) (aw T x false) t':=by
 have hnd:=hp.nodup_iff.2 h.sp.nd
 have hnx:x ∉ t'.ai:=(List.nodup_cons.1 hnd).1
 have hne: ∀y∈t'.ai,y≠x:=fun y hy e=>hnx (e▸hy)
 have hin: ∀y∈t'.ai,y∈t.ai:=fun y hy=>hp.mem_iff.1 (by simp[hy])
 have hl:t'.ai.length=ct:=by have:=hp.length_eq;simp only[List.length_cons] at this;omega
 have hx0:(0:Nat)≠x:=by have:=(h.sp.le x hx).1;omega
 refine⟨⟨_,_,_,hl.symm▸hR,dL t' (fun s hs=>⟨af _ _ _ _ (hne s hs),af _ _ _ _ (hne s hs),af _ _ _ _ (hne s hs)⟩) hr,by rw[af _ _ _ _ hx0];exact hB⟩,hw,iD t' (fun a ha c hc hle=>xc (hne a ha) (hne c hc) hle) ho,⟨(List.nodup_cons.1 hnd).2,fun y hy=>h.sp.le y (hin y hy)⟩,fun y hy=> ?_,fun y hy=>by rw[af _ _ _ _ (hne y hy)];exact h.id y (hin y hy)⟩
 by_cases e:y=x
 ·subst e;rw[aj];simp[hnx]
 ·rw[af _ _ _ _ e,h.th y hy,←hp.mem_iff];simp[e]
theorem o8 {rt:Nat} {c:BT} (h:dF w b g n D S I T (.node rt c .nil)) (hlen:c.ai.length≤1024):
  Calls Tryz.prog 199 #[.pointer (some ⟨b,0,none⟩),.int .i64 (rt:Int)] w fun e w'=> ∃t':BT,e= .returned (.tuple #[])∧(rt::t'.ai).Perm (BT.node rt c .nil).ai∧dF w' b g n (aw D rt 0) (aw S rt 0) (aw I rt 0) (aw T rt false) t'∧aQ b g w w':=by
 obtain⟨C,A,B,hR,hrow,hB⟩:=h.lk
 have hlen2:(BT.node rt c .nil).ai.length=c.ai.length+1:=by simp[BT.ai]
 rw[hlen2] at hR
 have hrn:=h.sp.le rt (by simp[BT.ai])
 have hsp:jQ n c.ai:=⟨by have:=h.sp.nd;simp only[BT.ai,List.append_nil,List.nodup_cons] at this;exact this.2,fun y hy=>h.sp.le y (by simp[BT.ai,hy])⟩
 have hpair:=rI (w:=w) (b:=b) (g:=g) (rt:=rt) (ct:=c.ai.length+1) (D:=D) (S:=S) (I:=I) (C:=C) (A:=A) (B:=B) (T:=T) c c.ai hsp hB
  ⟨⟨C,A,B,hR,jc c rt hrow.2.2.1,trivial,fun _ _=>⟨rfl,rfl,rfl⟩⟩,h.od.2.1,trivial,by simp[BT.ai],aQ.refl _ _ _⟩
 rw[←hrow.1] at hpair
 have key:=sg hR rt rfl hrn.2 hlen (fun r C1 A1 B1=> ∃t':BT,r=t'.root∧t'.wide≤1∧Row C1 A1 B1 t'∧Ord (Le D S I) t'∧t'.ai.Perm c.ai∧B1 0=0) (hpair.mono (by
  rintro e w' ⟨t',hw,he,hp⟩
  obtain⟨C1,A1,B1,k1,k2,_,k4⟩:=hp.lk
  exact⟨t'.root,C1,A1,B1,he,k1,hp.on,t',rfl,hw,k2,hp.o1,by simpa [BT.ai] using hp.pm,(k4 0 (fun hh=>by have:=(hsp.le 0 hh).1;omega)).2.2.trans hB⟩))
 refine key.mono ?_
 rintro e w' ⟨r,C1,A1,B1,he,k1,k2,t',rfl,q1,q2,q3,q4,q5⟩
 have hp:(rt::t'.ai).Perm (BT.node rt c .nil).ai:=by simpa [BT.ai] using q4
 exact⟨t',he,hp,mz h (by simp[BT.ai]) hp q1 q2 q3 q5 hlen2 k1,k2⟩
end
section
variable {w:World} {b g n:Nat} {D S I:Nat→Nat} {T:Nat→Bool}
theorem jn {C A B:Nat→Nat} {p q:Nat} {cp cq:BT} (hp:Row C A B (.node p cp .nil)) (hq:Row C A B (.node q cq .nil)) (hn:(p::q::(cq.ai++cp.ai)).Nodup) (h0: ∀s∈cp.ai,s≠0):
  Row (zz C p q) (Ac C A p q) (rM C B p q) (.node p (.node q cq cp) .nil):=by
 have hpq:p≠q:=fun e=>(List.nodup_cons.1 hn).1 (by simp[e])
 exact⟨by rw[zz,aj];rfl,by rw[rM,af _ _ _ _ hpq];exact hp.2.1,kK hp.1 hp.2.2.1 hq.1 hq.2.2.1 hn h0,trivial⟩
theorem oR {rt x:Nat} {c:BT} (h:dF w b g n D S I T (.node rt c .nil)) (hx:x∈c.ai) (hlen:c.ai.length≤1024):
  Calls Tryz.prog 199 #[.pointer (some ⟨b,0,none⟩),.int .i64 (x:Int)] w fun e w'=> ∃t':BT,e= .returned (.tuple #[])∧(x::t'.ai).Perm (BT.node rt c .nil).ai∧dF w' b g n (aw D x 0) (aw S x 0) (aw I x 0) (aw T x false) t'∧aQ b g w w':=by
 obtain⟨C,A,B,hR,hrow,hB⟩:=h.lk
 have hlen2:(BT.node rt c .nil).ai.length=c.ai.length+1:=by simp[BT.ai]
 rw[hlen2] at hR
 have hnd:(rt::c.ai).Nodup:=by have:=h.sp.nd;simpa [BT.ai] using this
 have hle: ∀y∈rt::c.ai,1≤y∧y≤n:=fun y hy=>h.sp.le y (by simpa [BT.ai] using hy)
 have hrc:rt ∉ c.ai:=(List.nodup_cons.1 hnd).1
 have hxr:x≠rt:=fun e=>hrc (e▸hx)
 obtain⟨hC,hBr,hl,_⟩:=hrow
 obtain⟨cx,k1,k2,k3,k4⟩:=fW (le:=Le D S I) x c rt hl (List.nodup_cons.1 hnd).2 hx
 have hcx: ∀y∈cx.ai,y∈c.ai:=fun y hy=>k3.mem_iff.1 (by simp[hy])
 have hnp:=k3.nodup_iff.2 (List.nodup_cons.1 hnd).2
 have hxx:x ∉ cx.ai:=(List.nodup_cons.1 (List.nodup_append.1 hnp).2.1).1
 have hsp:jQ n cx.ai:=⟨(List.nodup_cons.1 (List.nodup_append.1 hnp).2.1).2,fun y hy=>hle y (by simp[hcx y hy])⟩
 have hpair:=rI (w:=w) (b:=b) (g:=g) (rt:=rt) (ct:=c.ai.length+1) (D:=D) (S:=S) (I:=I) (C:=C) (A:=A) (B:=B) (T:=T) cx cx.ai hsp hB
  ⟨⟨C,A,B,hR,jc cx x k2,trivial,fun _ _=>⟨rfl,rfl,rfl⟩⟩,k4 h.od.2.1,trivial,by simp[BT.ai],aQ.refl _ _ _⟩
 rw[←k1] at hpair
 have h0L:0 ∉ cx.ai:=fun hh=>by have:=(hsp.le 0 hh).1;omega
 have key:=qm hR x hxr (hle x (by simp[hx])).2 hlen
  (fun r C1 A1 B1=> ∃tb:BT,r=tb.root∧tb.wide≤1∧Row C1 A1 B1 tb∧Ord (Le D S I) tb∧tb.ai.Perm cx.ai∧ ∀y,y ∉ cx.ai→C1 y=C y∧A1 y=A y∧B1 y=B y)
  (fun r C2 A2 B2=> ∃t':BT,r=t'.root∧t'.wide≤1∧Row C2 A2 B2 t'∧Ord (Le D S I) t'∧(x::t'.ai).Perm (rt::c.ai)∧B2 0=0)
  (hpair.mono (by
   rintro e w' ⟨t',hw,he,hp⟩
   obtain⟨C1,A1,B1,q1,q2,_,q4⟩:=hp.lk
   exact⟨t'.root,C1,A1,B1,he,q1,hp.on,t',rfl,hw,q2,hp.o1,by simpa [BT.ai] using hp.pm,q4⟩))
  (by
   rintro r C1 A1 B1 ⟨tb,_,_,_,_,_,off⟩
   obtain⟨a,d⟩:=cU c rt x hl hx
   rw[(off x hxx).2.1,(off x hxx).2.2]
   refine⟨?_,?_⟩
   ·rcases a with ⟨_,a⟩|a
    ·rw[a];exact(hle rt (by simp)).2
    ·exact(hle _ (by simp[a])).2
   ·rcases d with d|d
    ·rw[d];exact Nat.zero_le _
    ·exact(hle _ (by simp[d])).2)
  (by
   rintro w2 r C1 A1 B1 ⟨tb,rfl,hw,hrb,hob,hpb,off⟩ hR2
   obtain⟨z1,z2⟩:=wi hl hC hBr hnd (fun y hy=>by have:=(hle y hy).1;omega) hx k3 off
   have hrb2:Row (jU C1 A1 B1 x) (kA C1 A1 B1 x) (iW C1 A1 B1 x) tb:=dL tb (fun y hy=>z2 y (hpb.mem_iff.1 hy)) hrb
   have hocut:=oV x c h.od.2.1
   have hou: ∀y∈(c.cut x).ai,Le D S I rt y:=fun y hy=>h.od.1 y (eQ x c y hy)
   have hB0:iW C1 A1 B1 x 0=0:=by
    rw[eh,(off 0 h0L).2.2,hB]
    rw[(off x hxx).2.1]
    obtain⟨a,_⟩:=cU c rt x hl hx
    rcases a with ⟨_,a⟩|a
    ·rw[a];have:=(hle rt (by simp)).1;omega
    ·have:=(hle _ (List.mem_cons_of_mem _ a)).1;omega
   have hall: ∀y,List.count y ((c.cut x).ai++x::tb.ai)=List.count y c.ai:=fun y=>by
    rw[←(List.perm_iff_count.1 k3) y]
    simp only[List.count_append,List.count_cons,(List.perm_iff_count.1 hpb) y]
   cases tb with
   |nil=>
    refine(mU rt (hle rt (by simp)).1 w2 b).mono ?_
    rintro e w3 ⟨he,rfl⟩
    refine⟨rt,_,_,_,he,hR2,aQ.refl _ _ _,.node rt (c.cut x) .nil,rfl,by simp[BT.wide],z1,⟨hou,hocut,trivial⟩,?_,hB0⟩
    rw[List.perm_iff_count]
    intro y
    have:=hall y
    simp only[BT.ai,List.count_append,List.count_cons,List.append_nil,List.count_nil] at this⊢
    omega
   |node q cq xq=>
    cases xq with
    |node _ _ _=>simp[BT.wide] at hw
    |nil=>
     have hqc: ∀y∈(BT.node q cq .nil).ai,y∈c.ai:=fun y hy=>hcx y (hpb.mem_iff.1 hy)
     have hq:=hle q (List.mem_cons_of_mem _ (hqc q (by simp[BT.ai])))
     have hrt:=hle rt (by simp)
     have hnn:(rt::q::(cq.ai++(c.cut x).ai)).Nodup:=by
      have hn2:(x::rt::q::(cq.ai++(c.cut x).ai)).Nodup:=by
       refine(List.Perm.nodup_iff ?_).2 hnd
       rw[List.perm_iff_count]
       intro y
       have:=hall y
       simp only[BT.ai,List.count_append,List.count_cons,List.append_nil] at this⊢
       omega
      exact(List.nodup_cons.1 hn2).2
     have hnn':(q::rt::((c.cut x).ai++cq.ai)).Nodup:=by
      refine(List.Perm.nodup_iff ?_).2 hnn
      rw[List.perm_iff_count]
      intro y
      simp only[List.count_append,List.count_cons]
      omega
     have hroot: ∀(d:BT),(∀y∈d.ai,y∈c.ai)→d.root≤n:=fun d hd=>by
      cases d with
      |nil=>exact Nat.zero_le _
      |node s _ _=>exact(hle s (List.mem_cons_of_mem _ (hd s (by simp[BT.ai])))).2
     have hne: ∀(d:BT) (v:Nat),v ∉ d.ai→v≠0→d.root≠v:=fun d v hv h0 e=>by
      cases d with
      |nil=>exact h0 e.symm
      |node s _ _=>rw[BT.root] at e;exact hv (by simp[BT.ai,e])
     have y1:q ∉ (c.cut x).ai:=fun hh=>(List.nodup_cons.1 (List.nodup_cons.1 hnn).2).1 (by simp[hh])
     have y2:rt ∉ cq.ai:=fun hh=>(List.nodup_cons.1 hnn).1 (by simp[hh])
     refine(qe hR2 rt q hrt.1 hrt.2 hq.1 hq.2 (by rw[z1.1];exact hroot _ (fun y hy=>eQ x c y hy)) (by rw[hrb2.1];exact hroot _ (fun y hy=>hqc y (by simp[BT.ai,hy]))) (by rw[z1.1];exact hne _ _ y1 (by omega)) (by rw[hrb2.1];exact hne _ _ y2 (by omega))).mono ?_
     rintro e w3 ⟨u,v,huv,hlev,he,hR3,ho3⟩
     have nz1: ∀s∈(c.cut x).ai,s≠0:=fun s hs=>by have:=(hle s (List.mem_cons_of_mem _ (eQ x c s hs))).1;omega
     have nz2: ∀s∈cq.ai,s≠0:=fun s hs=>by have:=(hle s (List.mem_cons_of_mem _ (hqc s (by simp[BT.ai,hs])))).1;omega
     rcases huv with ⟨rfl,rfl⟩|⟨rfl,rfl⟩
     ·obtain⟨j1,j2⟩:=gT le_trans hlev hou hob.1 hocut hob.2.1
      refine⟨u,_,_,_,he,hR3,ho3,.node u (.node v cq (c.cut x)) .nil,rfl,by simp[BT.wide],jn z1 hrb2 hnn nz1,⟨j1,j2,trivial⟩,?_,?_⟩
      ·rw[List.perm_iff_count]
       intro y
       have:=hall y
       simp only[BT.ai,List.count_append,List.count_cons,List.append_nil] at this⊢
       omega
      ·rw[rM,af _ _ _ _ (by omega)];exact hB0
     ·obtain⟨j1,j2⟩:=gT le_trans hlev hob.1 hou hob.2.1 hocut
      refine⟨u,_,_,_,he,hR3,ho3,.node u (.node v (c.cut x) cq) .nil,rfl,by simp[BT.wide],jn hrb2 z1 hnn' nz2,⟨j1,j2,trivial⟩,?_,?_⟩
      ·rw[List.perm_iff_count]
       intro y
       have:=hall y
       simp only[BT.ai,List.count_append,List.count_cons,List.append_nil] at this⊢
       omega
      ·rw[rM,af _ _ _ _ (by omega)];exact hB0)
 refine key.mono ?_
 rintro e w' ⟨r,C2,A2,B2,he,m1,m2,t',rfl,q1,q2,q3,q4,q5⟩
 have hp:(x::t'.ai).Perm (BT.node rt c .nil).ai:=by simpa [BT.ai] using q4
 exact⟨t',he,hp,mz h (by simp[BT.ai,hx]) hp q1 q2 q3 q5 hlen2 m1,m2⟩
end
section
variable {w:World} {b g n:Nat} {D S I:Nat→Nat} {T:Nat→Bool} {t:BT}
theorem lQ {w':World} {x d s i:Nat} {t':BT} {C A B:Nat→Nat} (h:dF w b g n D S I T t) (hx:x ∉ t.ai) (hxn:x≤n) (hi:i+1=x) (hp:t'.ai.Perm (x::t.ai)) (hw:t'.wide≤1) (hr:Row C A B t') (ho:Ord (Le (aw D x d) (aw S x s) (aw I x i)) t') (hB:B 0=0)
  (hR:aG w' b g n t'.root (t.ai.length+1) (aw D x d) (aw S x s) (aw I x i) C A B (aw T x true)):
  dF w' b g n (aw D x d) (aw S x s) (aw I x i) (aw T x true) t':=by
 have hl:t'.ai.length=t.ai.length+1:=by have:=hp.length_eq;simpa using this
 refine⟨⟨C,A,B,hl.symm▸hR,hr,hB⟩,hw,ho,⟨hp.nodup_iff.2 (List.nodup_cons.2 ⟨hx,h.sp.nd⟩),fun y hy=> ?_⟩,fun y hy=> ?_,fun y hy=> ?_⟩
 ·rcases List.mem_cons.1 (hp.mem_iff.1 hy) with rfl|hy
  ·omega
  ·exact h.sp.le y hy
 ·by_cases e:y=x
  ·subst e;rw[aj];simp[hp.mem_iff]
  ·rw[af _ _ _ _ e,h.th y hy,hp.mem_iff];simp[e]
 ·rcases List.mem_cons.1 (hp.mem_iff.1 hy) with rfl|hy
  ·rw[aj];exact hi
  ·rw[af I x i y (fun e=>hx (e▸hy))];exact h.id y hy
theorem BO (h:dF w b g n D S I T t) (id d s:Nat) (hid:id<n) (hn:n≤1024) (hct:t.ai.length≤1024) (hT:T (id+1)=false):
  Calls Tryz.prog 219 #[.pointer (some ⟨b,0,none⟩),.agg #[.int .u64 (d:Int),.int .u64 (s:Int),.int .i64 (id:Int)]] w fun e w'=>e= .returned (.tuple #[])∧ ∃t':BT,t'.ai.Perm ((id+1)::t.ai)∧dF w' b g n (aw D (id+1) d) (aw S (id+1) s) (aw I (id+1) id) (aw T (id+1) true) t'∧aQ b g w w':=by
 obtain⟨C,A,B,hR,hrow,hB⟩:=h.lk
 have hx:id+1 ∉ t.ai:=fun hh=>by have:=(h.th (id+1) (by omega)).2 hh;rw[hT] at this;exact absurd this (by simp)
 have hne: ∀y∈t.ai,y≠id+1:=fun y hy e=>hx (e▸hy)
 have hrow2:Row (aw C (id+1) 0) (aw A (id+1) 0) (aw B (id+1) 0) t:=dL t (fun y hy=>⟨af _ _ _ _ (hne y hy),af _ _ _ _ (hne y hy),af _ _ _ _ (hne y hy)⟩) hrow
 have hod:Ord (Le (aw D (id+1) d) (aw S (id+1) s) (aw I (id+1) id)) t:=iD t (fun a ha c hc hle=>xc (hne a ha) (hne c hc) hle) h.od
 have hB2:aw B (id+1) 0 0=0:=by rw[af _ _ _ _ (by omega)];exact hB
 have hone:Row (aw C (id+1) 0) (aw A (id+1) 0) (aw B (id+1) 0) (.node (id+1) .nil .nil):=⟨aj _ _ _,aj _ _ _,trivial,trivial⟩
 have hcast:((id:Int)+1)=((id+1:Nat):Int):=by omega
 cases t with
 |nil=>
  refine(nF hR id d s (id+1) hid hn hct (fun w1 hr=>by
   rw[hcast]
   refine(vI (id+1) w1 b).mono ?_
   rintro e w' ⟨he,rfl⟩
   exact⟨he,hr,aQ.refl _ _ _⟩)).mono ?_
  rintro e w' ⟨he,k1,k2⟩
  exact⟨he,.node (id+1) .nil .nil,by simp[BT.ai],lQ h hx (by omega) rfl (by simp[BT.ai]) (by simp[BT.wide]) hone ⟨fun y hy=>absurd hy (by simp[BT.ai]),trivial,trivial⟩ hB2 k1,k2⟩
 |node rt c x=>
  cases x with
  |node _ _ _=>have:=h.wd;simp[BT.wide] at this
  |nil=>
   have hrt:=h.sp.le rt (by simp[BT.ai])
   have hnd:(rt::c.ai).Nodup:=by have:=h.sp.nd;simpa [BT.ai] using this
   have hrx:rt≠id+1:=hne rt (by simp[BT.ai])
   have hxc:id+1 ∉ c.ai:=fun hh=>hx (by simp[BT.ai,hh])
   have nz: ∀y∈c.ai,y≠0:=fun y hy=>by have:=(h.sp.le y (by simp[BT.ai,hy])).1;omega
   have hroot:c.root≤n:=by
    cases c with
    |nil=>exact Nat.zero_le _
    |node z _ _=>exact(h.sp.le z (by simp[BT.ai])).2
   have hcr:c.root≠id+1:=by
    cases c with
    |nil=>simp[BT.root]
    |node z _ _=>exact hne z (by simp[BT.ai])
   cases hb:x5 (aw D (id+1) d (id+1)) (aw S (id+1) s (id+1)) (aw I (id+1) id (id+1)) (aw D (id+1) d rt) (aw S (id+1) s rt) (aw I (id+1) id rt) with
   |true=>
    refine(nF hR id d s (id+1) hid hn hct (fun w1 hr=>by
     rw[hcast]
     exact ov hr (id+1) rt (by omega) (by omega) hrt.1 hrt.2 (by rw[aj];exact Nat.zero_le _) (by rw[aj];omega) hb)).mono ?_
    rintro e w' ⟨he,k1,k2⟩
    have hperm:(BT.node (id+1) (.node rt c .nil) .nil).ai.Perm ((id+1)::(BT.node rt c .nil).ai):=by simp[BT.ai]
    obtain⟨j1,j2⟩:=gT (cp:= .nil) le_trans (jm hb) (fun y hy=>absurd hy (by simp[BT.ai])) hod.1 trivial hod.2.1
    exact⟨he,.node (id+1) (.node rt c .nil) .nil,hperm,lQ h hx (by omega) rfl hperm (by simp[BT.wide]) (jn hone hrow2 (by simpa [BT.ai] using List.nodup_cons.2 ⟨hx,h.sp.nd⟩) (fun y hy=>absurd hy (by simp[BT.ai]))) ⟨j1,j2,trivial⟩ (by rw[rM,af _ _ _ _ (by omega)];exact hB2) k1,k2⟩
   |false=>
    refine(nF hR id d s rt hid hn hct (fun w1 hr=>by
     rw[hcast]
     exact nU hr rt (id+1) hrt.1 hrt.2 (by omega) (by omega) (by rw[hrow2.1];exact hroot) (by rw[hrow2.1];exact hcr) hb)).mono ?_
    rintro e w' ⟨he,k1,k2⟩
    have hperm:(BT.node rt (.node (id+1) .nil c) .nil).ai.Perm ((id+1)::(BT.node rt c .nil).ai):=by
     rw[List.perm_iff_count]
     intro y
     simp only[BT.ai,List.count_cons,List.append_nil,List.nil_append]
     omega
    obtain⟨j1,j2⟩:=gT (cq:= .nil) le_trans hb hod.1 (fun y hy=>absurd hy (by simp[BT.ai])) hod.2.1 trivial
    have hn2:(rt::(id+1)::([]++c.ai)).Nodup:=by
     simp only[List.nil_append,List.nodup_cons,List.mem_cons,not_or]
     exact⟨⟨hrx,(List.nodup_cons.1 hnd).1⟩,hxc,(List.nodup_cons.1 hnd).2⟩
    exact⟨he,.node rt (.node (id+1) .nil c) .nil,hperm,lQ h hx (by omega) rfl hperm (by simp[BT.wide]) (jn hrow2 hone hn2 nz) ⟨j1,j2,trivial⟩ (by rw[rM,af _ _ _ _ (by omega)];exact hB2) k1,k2⟩
end
def kL (n:Nat) (D S:Nat→Nat) (T:Nat→Bool):Prop:= ∀id,id<n→T (id+1)=false→D (id+1)=0∧S (id+1)=0
theorem kL.cut {n x:Nat} {D S:Nat→Nat} {T:Nat→Bool} (h:kL n D S T):kL n (aw D x 0) (aw S x 0) (aw T x false):=by
 intro i hi ht
 by_cases e:i+1=x
 ·rw[e,aj,aj];exact⟨rfl,rfl⟩
 ·rw[af _ _ _ _ e] at ht
  rw[af _ _ _ _ e,af _ _ _ _ e];exact h i hi ht
theorem kL.put {n x d s:Nat} {D S:Nat→Nat} {T:Nat→Bool} (h:kL n D S T):kL n (aw D x d) (aw S x s) (aw T x true):=by
 intro i hi ht
 by_cases e:i+1=x
 ·rw[e,aj] at ht;cases ht
 ·rw[af _ _ _ _ e] at ht
  rw[af _ _ _ _ e,af _ _ _ _ e];exact h i hi ht
def Holds (w:World) (b g n:Nat) (m:Nat→Option (Nat×Nat)) (t:BT):Prop:=
 ∃D S I T,dF w b g n D S I T t∧n≤1024∧(∀id,id<n→m id=if T (id+1) then some (D (id+1),S (id+1)) else none)∧kL n D S T
theorem kF: ∀{n:Nat} {L:List Nat},jQ n L→L.length≤n
 |0,L,h=>by
  cases L with
  |nil=>simp
  |cons y _=>have:=h.le y (by simp);omega
 |n+1,L,h=>by
  have k:jQ n (L.erase (n+1)):=⟨h.nd.erase _,fun y hy=>by
   have:=(h.nd.mem_erase_iff).1 hy
   have:=h.le y this.2
   omega⟩
  have:=kF k
  have:=List.length_erase (a:=n+1) (l:=L)
  split at this<;>omega
section
variable {w:World} {b g n:Nat} {D S I:Nat→Nat} {T:Nat→Bool} {t:BT} {m:Nat→Option (Nat×Nat)}
theorem tu (h:dF w b g n D S I T t) (hn:n≤1024) (x:Nat) (hx:x∈t.ai):
  Calls Tryz.prog 199 #[.pointer (some ⟨b,0,none⟩),.int .i64 (x:Int)] w fun e w'=>e= .returned (.tuple #[])∧ ∃t':BT,(x::t'.ai).Perm t.ai∧dF w' b g n (aw D x 0) (aw S x 0) (aw I x 0) (aw T x false) t'∧aQ b g w w':=by
 have hl:=kF h.sp
 cases t with
 |nil=>simp[BT.ai] at hx
 |node rt c y=>
  cases y with
  |node _ _ _=>have:=h.wd;simp[BT.wide] at this
  |nil=>
   have hlen:c.ai.length≤1024:=by simp only[BT.ai,List.append_nil,List.length_cons] at hl;omega
   by_cases e:x=rt
   ·subst e
    refine(o8 h hlen).mono ?_
    rintro e w' ⟨t',a,p,q,o⟩
    exact⟨a,t',p,q,o⟩
   ·refine(oR h (by simpa [BT.ai,e] using hx) hlen).mono ?_
    rintro e w' ⟨t',a,p,q,o⟩
    exact⟨a,t',p,q,o⟩
theorem Bg {id:Nat} (hm: ∀i,i<n→m i=if T (i+1) then some (D (i+1),S (i+1)) else none): ∀i,i<n→aw m id none i=if aw T (id+1) false (i+1) then some (aw D (id+1) 0 (i+1),aw S (id+1) 0 (i+1)) else none:=by
 intro i hi
 by_cases e:i=id
 ·subst e;rw[aj,aj];rfl
 ·have e':i+1≠id+1:=by omega
  rw[af _ _ _ _ e,af _ _ _ _ e',af _ _ _ _ e',af _ _ _ _ e'];exact hm i hi
theorem Fb {id d s:Nat} (hm: ∀i,i<n→m i=if T (i+1) then some (D (i+1),S (i+1)) else none): ∀i,i<n→aw m id (some (d,s)) i=if aw T (id+1) true (i+1) then some (aw D (id+1) d (i+1),aw S (id+1) s (i+1)) else none:=by
 intro i hi
 by_cases e:i=id
 ·subst e;rw[aj,aj,aj,aj];rfl
 ·have e':i+1≠id+1:=by omega
  rw[af _ _ _ _ e,af _ _ _ _ e',af _ _ _ _ e',af _ _ _ _ e'];exact hm i hi
theorem kJ {id:Nat} (hm: ∀i,i<n→m i=if T (i+1) then some (D (i+1),S (i+1)) else none) (hid:id<n):(m id).isSome=T (id+1):=by
 rw[hm id hid];cases T (id+1)<;>rfl
theorem vS (h:Holds w b g n m t) (id d s:Nat) (hid:id<n) (hm:(m id).isSome=false):
  Calls Tryz.prog 200 #[.pointer (some ⟨b,0,none⟩),.int .i64 (id:Int),.int .u64 (d:Int),.int .u64 (s:Int)] w fun e w'=>e= .returned (.int .i64 0)∧ ∃t',t'.ai.Perm ((id+1)::t.ai)∧Holds w' b g n (aw m id (some (d,s))) t'∧aQ b g w w':=by
 obtain⟨D,S,I,T,h1,h2,h3,h4⟩:=h
 have hT:T (id+1)=false:=(kJ h3 hid).symm.trans hm
 obtain⟨C,A,B,hR,_⟩:=h1.lk
 have hl:=kF h1.sp
 refine rk hR id d s h2 hid hT _ ((BO h1 id d s hid h2 (by omega) hT).mono ?_)
 rintro e w' ⟨he,t',p,q,o⟩
 exact⟨he,t',p,⟨_,_,_,_,q,h2,Fb h3,h4.put⟩,o⟩
theorem vq (h:Holds w b g n m t) (id:Nat) (hid:id<n) (hm:(m id).isSome=true):
  Calls Tryz.prog 187 #[.pointer (some ⟨b,0,none⟩),.int .i64 (id:Int)] w fun e w'=>e= .returned (.int .i64 0)∧ ∃t',((id+1)::t'.ai).Perm t.ai∧Holds w' b g n (aw m id none) t'∧aQ b g w w':=by
 obtain⟨D,S,I,T,h1,h2,h3,h4⟩:=h
 have hT:T (id+1)=true:=(kJ h3 hid).symm.trans hm
 obtain⟨C,A,B,hR,_⟩:=h1.lk
 refine qV hR id h2 hid hT _ ((tu h1 h2 (id+1) ((h1.th (id+1) (by omega)).1 hT)).mono ?_)
 rintro e w' ⟨he,t',p,q,o⟩
 exact⟨he,t',p,⟨_,_,_,_,q,h2,Bg h3,h4.cut⟩,o⟩
end
def tG (n:Nat) (m:Nat→Option (Nat×Nat)) (id:Nat):Prop:=
 id<n∧ ∃d s,m id=some (d,s)∧ ∀j d' s',j<n→m j=some (d',s')→d<d'∨(d=d'∧(s<s'∨(s=s'∧id≤j)))
section
variable {w:World} {b g n:Nat} {D S I:Nat→Nat} {T:Nat→Bool} {t:BT} {m:Nat→Option (Nat×Nat)}
theorem r5 (h:dF w b g n D S I T t) (hm: ∀i,i<n→m i=if T (i+1) then some (D (i+1),S (i+1)) else none) (ht:t.ai≠[]):I t.root+1=t.root∧t.root∈t.ai∧tG n m (I t.root):=by
 cases t with
 |nil=>exact absurd rfl ht
 |node rt c y=>
  cases y with
  |node _ _ _=>have:=h.wd;simp[BT.wide] at this
  |nil=>
   have hid:=h.id rt (by simp[BT.ai])
   have hle:=h.sp.le rt (by simp[BT.ai])
   refine⟨hid,by simp[BT.ai,BT.root],?_⟩
   show tG n m (I rt)
   have hlt:I rt<n:=by omega
   have hT:T (I rt+1)=true:=by rw[hid];exact(h.th rt hle.2).2 (by simp[BT.ai])
   have hv:=hm (I rt) hlt
   rw[hT,if_pos rfl] at hv
   refine⟨hlt,_,_,hv,fun j d' s' hj hmj=> ?_⟩
   rw[hm j hj] at hmj
   have hTj:T (j+1)=true:=by
    cases hh:T (j+1) with
    |true=>rfl
    |false=>rw[hh] at hmj;exact absurd hmj (by simp)
   rw[hTj,if_pos rfl] at hmj
   injection hmj with hmj
   injection hmj with e1 e2
   have hjs:=(h.th (j+1) (by omega)).1 hTj
   rw[hid]
   simp only[BT.ai,List.append_nil,List.mem_cons] at hjs
   rcases hjs with e|hjs
   ·rw[e] at e1 e2;omega
   ·have hl:=le_iff.1 (h.od.1 (j+1) hjs)
    have hij:=h.id (j+1) (by simp[BT.ai,hjs])
    omega
theorem DN (h:Holds w b g n m t) (ht:t.ai≠[]):
  Calls Tryz.prog 192 #[.pointer (some ⟨b,0,none⟩)] w fun e w'=> ∃id:Nat,tG n m id∧e= .returned (.tuple #[.int .i64 (id:Int),.bool true])∧ ∃q,w'=w.drewN q:=by
 obtain⟨D,S,I,T,h1,h2,h3,h4⟩:=h
 obtain⟨k1,k2,k3⟩:=r5 h1 h3 ht
 obtain⟨C,A,B,hR,_⟩:=h1.lk
 have hle:=h1.sp.le _ k2
 refine(zM hR hle.1 hle.2).mono ?_
 rintro e w' ⟨he,hq⟩
 exact⟨_,k3,he,hq⟩
end
attribute [local go_sem ↓] Go.wp_at_zero Go.wp_at_succ
section
variable {w:World} {b g n rt ct:Nat} {D S I C A B:Nat→Nat} {T:Nat→Bool}
theorem zW (h:aG w b g n 0 ct D S I C A B T):
  Calls Tryz.prog 192 #[.pointer (some ⟨b,0,none⟩)] w fun e w'=>e= .returned (.tuple #[.int .i64 0,.bool false])∧w'=w:=by
 have e1:w.cell? ⟨b,1,none⟩=some (.int .i64 0):=h.rt
 clear h
 go_enter Tryz.func192,Tryz.ntmps192
 go_wp2
 go_ret2
 exact⟨rfl,rfl⟩
theorem BS (h:aG w b g n rt ct D S I C A B T) (id:Nat) (d s:Int) (hid:id<n) (hn:n≤1024) (hT:T (id+1)=true):
  Calls Tryz.prog 200 #[.pointer (some ⟨b,0,none⟩),.int .i64 (id:Int),.int .u64 d,.int .u64 s] w fun e w'=>e= .returned (.int .i64 5)∧w'=w:=by
 have HM:=aa (fq h id hn hid)
 obtain⟨cp,e0⟩:=h.sl
 have e1:=h.nt (id+1) (by omega)
 rw[hT] at e1
 clear h hT
 go_enter Tryz.func200,Tryz.ntmps200
 go_wp2_with (go_at_call 197;refine(HM.out).mono ?_;rintro e w1 ⟨rfl,hw⟩;replace hw:=hw.symm;subst hw)
 go_ret
 exact⟨rfl,rfl⟩
theorem qn (h:aG w b g n rt ct D S I C A B T) (id:Nat) (hid:id<n) (hn:n≤1024) (hT:T (id+1)=false):
  Calls Tryz.prog 187 #[.pointer (some ⟨b,0,none⟩),.int .i64 (id:Int)] w fun e w'=>e= .returned (.int .i64 6)∧w'=w:=by
 have HM:=aa (fq h id hn hid)
 obtain⟨cp,e0⟩:=h.sl
 have e1:=h.nt (id+1) (by omega)
 rw[hT] at e1
 clear h hT
 go_enter Tryz.func187,Tryz.ntmps187
 go_wp2_with (go_at_call 197;refine(HM.out).mono ?_;rintro e w1 ⟨rfl,hw⟩;replace hw:=hw.symm;subst hw)
 go_ret
 exact⟨rfl,rfl⟩
end
end Go.Proofs.YtdbailcdlngemaaGreatDoor.Ph
namespace Go.Proofs.YtdbailcdlngemaaGreatDoor.Ph
open Go.RowKit
abbrev Item:=Nat×Nat×Nat
def ah (a b:Item):Prop:=a.2.1<b.2.1∨(a.2.1=b.2.1∧(a.2.2<b.2.2∨(a.2.2=b.2.2∧a.1<b.1)))
instance (a b:Item):Decidable (ah a b):=by unfold ah;exact inferInstance
theorem xv {a b c:Item} (h:ah a b) (k:ah b c):ah a c:=by unfold ah at*;omega
theorem Dv {a b:Item} (h:a.1≠b.1) (k: ¬ah a b):ah b a:=by unfold ah at*;omega
def ins (x:Item):List Item→List Item
 |[]=>[x]
 |y::L=>if ah x y then x::y::L else y::ins x L
def out (id:Nat) (L:List Item):List Item:=L.filter (fun it=>it.1 !=id)
def vV (L:List Item):Prop:=L.Pairwise ah
theorem gi {x y:Item}: ∀{L:List Item},y∈ins x L↔y=x∨y∈L
 |[]=>by simp[ins]
 |z::L=>by
  rw[ins]
  split
  ·simp
  ·rw[List.mem_cons,gi (L:=L),List.mem_cons]
   constructor
   ·rintro(h|h|h)
    ·exact .inr (.inl h)
    ·exact .inl h
    ·exact .inr (.inr h)
   ·rintro(h|h|h)
    ·exact .inr (.inl h)
    ·exact .inl h
    ·exact .inr (.inr h)
theorem ly {x:Item}: ∀{L:List Item},(ins x L).length=L.length+1
 |[]=>rfl
 |z::L=>by
  rw[ins]
  split
  ·simp
  ·simp[ly (L:=L)]
theorem uc {x:Item}: ∀{L:List Item},vV L→(∀y∈L,y.1≠x.1)→vV (ins x L)
 |[],_,_=>by simp[vV,ins]
 |z::L,h,hx=>by
  unfold vV at h⊢
  rw[List.pairwise_cons] at h
  rw[ins]
  split
  ·rename_i hz
   rw[List.pairwise_cons,List.pairwise_cons]
   refine⟨fun y hy=> ?_,h⟩
   rcases List.mem_cons.1 hy with rfl|hy
   ·exact hz
   ·exact xv hz (h.1 y hy)
  ·rename_i hz
   rw[List.pairwise_cons]
   refine⟨fun y hy=> ?_,uc h.2 (fun y hy=>hx y (List.mem_cons_of_mem _ hy))⟩
   rcases gi.1 hy with rfl|hy
   ·exact Dv (fun e=>hx z (by simp) e.symm) hz
   ·exact h.1 y hy
theorem o7 {id:Nat} {y:Item} {L:List Item}:y∈out id L↔y∈L∧y.1≠id:=by simp[out]
theorem Am {id:Nat} {L:List Item} (h:vV L):vV (out id L):=List.Pairwise.filter _ h
structure Good (n:Nat) (L:List Item):Prop where
 srt:vV L
 ids:(L.map (·.1)).Nodup
 jj: ∀it∈L,it.1<n
theorem Good.nil (n:Nat):Good n []:=⟨by simp[vV],by simp,by simp⟩
theorem oN {x:Item}: ∀{L:List Item},(L.map (·.1)).Nodup→(∀y∈L,y.1≠x.1)→((ins x L).map (·.1)).Nodup
 |[],_,_=>by simp[ins]
 |z::L,h,hx=>by
  rw[ins]
  rw[List.map_cons,List.nodup_cons] at h
  split
  ·rw[List.map_cons,List.map_cons,List.nodup_cons,List.nodup_cons]
   refine⟨fun q=> ?_,h⟩
   rw[←List.map_cons (f:=fun (a:Item)=>a.1) (a:=z) (l:=L)] at q
   obtain⟨y,hy,e⟩:=List.mem_map.1 q
   exact hx y hy e
  ·rw[List.map_cons,List.nodup_cons]
   refine⟨fun q=> ?_,oN h.2 (fun y hy=>hx y (List.mem_cons_of_mem _ hy))⟩
   obtain⟨y,hy,e⟩:=List.mem_map.1 q
   rcases gi.1 hy with rfl|hy
   ·exact hx z (by simp) e.symm
   ·exact h.1 (List.mem_map.2 ⟨y,hy,e⟩)
theorem Good.ins {n:Nat} {L:List Item} (h:Good n L) {x:Item} (hx:x.1<n) (hid: ∀y∈L,y.1≠x.1):Good n (ins x L):=
 ⟨uc h.srt hid,oN h.ids hid,fun it hit=>by
  rcases gi.1 hit with rfl|q
  ·exact hx
  ·exact h.jj it q⟩
theorem Good.out {n:Nat} {L:List Item} (h:Good n L) (id:Nat):Good n (out id L):=
 ⟨Am h.srt,(List.Sublist.map _ List.filter_sublist).nodup h.ids,fun it hit=>h.jj it (o7.1 hit).1⟩
theorem Fs {n:Nat} {x:Item} {L:List Item} (h:Good n (x::L)):out x.1 (x::L)=L:=by
 have hn:=(List.nodup_cons.1 h.ids).1
 unfold out
 rw[List.filter_cons_of_neg (by simp),List.filter_eq_self]
 intro y hy
 simp only[bne_iff_ne,ne_eq]
 intro e
 exact hn (List.mem_map.2 ⟨y,hy,e⟩)
theorem yT {id:Nat} {L:List Item} (h: ∀y∈L,y.1≠id):out id L=L:=by
 unfold out
 rw[List.filter_eq_self]
 intro y hy
 simpa using h y hy
theorem wK {n:Nat} {L1 L2:List Item} {x:Item} (h:Good n (L1++x::L2)):out x.1 (L1++x::L2)=L1++L2:=by
 have hn:=h.ids
 rw[List.map_append,List.nodup_append] at hn
 simp only[List.map_cons,List.nodup_cons] at hn
 unfold out
 rw[List.filter_append,List.filter_cons_of_neg (by simp)]
 congr 1
 ·rw[List.filter_eq_self]
  intro y hy
  simp only[bne_iff_ne,ne_eq]
  exact hn.2.2 _ (List.mem_map_of_mem (f:=fun (a:Item)=>a.1) hy) _ (by simp)
 ·rw[List.filter_eq_self]
  intro y hy
  simp only[bne_iff_ne,ne_eq]
  intro e
  exact hn.2.1.1 (List.mem_map.2 ⟨y,hy,e⟩)
theorem Good.uniq {n:Nat} {L:List Item} (h:Good n L) {x y:Item} (hx:x∈L) (hy:y∈L) (e:x.1=y.1):x=y:=by
 by_cases c1:ah x y
 ·obtain⟨s,t,rfl⟩:=List.append_of_mem hx
  have hn:=h.ids
  rw[List.map_append,List.nodup_append] at hn
  simp only[List.map_cons,List.nodup_cons] at hn
  rcases List.mem_append.1 hy with q|q
  ·exact absurd e.symm (hn.2.2 _ (List.mem_map_of_mem (f:=fun (a:Item)=>a.1) q) _ (by simp))
  ·rcases List.mem_cons.1 q with q|q
   ·exact q.symm
   ·exact absurd (List.mem_map.2 ⟨y,q,e.symm⟩) hn.2.1.1
 ·obtain⟨s,t,rfl⟩:=List.append_of_mem hx
  have hn:=h.ids
  rw[List.map_append,List.nodup_append] at hn
  simp only[List.map_cons,List.nodup_cons] at hn
  rcases List.mem_append.1 hy with q|q
  ·exact absurd e.symm (hn.2.2 _ (List.mem_map_of_mem (f:=fun (a:Item)=>a.1) q) _ (by simp))
  ·rcases List.mem_cons.1 q with q|q
   ·exact q.symm
   ·exact absurd (List.mem_map.2 ⟨y,q,e.symm⟩) hn.2.1.1
def km (w:World) (b g n:Nat) (L:List Item):Prop:=
 Good n L∧ ∃m t,Holds w b g n m t∧L.length=t.ai.length∧ ∀id d s,id<n→(m id=some (d,s)↔(id,d,s)∈L)
section
variable {w:World} {b g n:Nat} {L:List Item} {m:Nat→Option (Nat×Nat)} {t:BT}
theorem km.qa (h:km w b g n L):Good n L:=h.1
theorem km.Gi (h:km w b g n L):n≤1024:=by
 obtain⟨_,m,t,⟨_,_,_,_,_,hn,_⟩,_⟩:=h
 exact hn
theorem D6 {id:Nat} (hm: ∀id d s,id<n→(m id=some (d,s)↔(id,d,s)∈L)) (hi:id<n) (hid: ∀it∈L,it.1≠id):(m id).isSome=false:=by
 cases h:m id with
 |none=>rfl
 |some x=>
  obtain⟨d,s⟩:=x
  exact absurd rfl (hid _ ((hm id d s hi).1 h))
theorem Dy {id d s:Nat} (hm: ∀id d s,id<n→(m id=some (d,s)↔(id,d,s)∈L)) (hi:id<n) (hid:(id,d,s)∈L):(m id).isSome=true:=by
 rw[(hm id d s hi).2 hid];rfl
theorem EO {id d s:Nat} (hm: ∀id d s,id<n→(m id=some (d,s)↔(id,d,s)∈L)) (hid: ∀it∈L,it.1≠id): ∀i d' s',i<n→(aw m id (some (d,s)) i=some (d',s')↔(i,d',s')∈ins (id,d,s) L):=by
 intro i d' s' hi
 rw[gi]
 by_cases e:i=id
 ·subst e
  rw[aj]
  constructor
  ·intro q
   injection q with q
   injection q with q1 q2
   exact .inl (by rw[q1,q2])
  ·rintro(q|q)
   ·injection q with _ q
    injection q with q1 q2
    rw[q1,q2]
   ·exact absurd rfl (hid _ q)
 ·rw[af _ _ _ _ e,hm i d' s' hi]
  constructor
  ·exact .inr
  ·rintro(q|q)
   ·injection q with q _
    exact absurd q e
   ·exact q
theorem E4 {id:Nat} (hm: ∀id d s,id<n→(m id=some (d,s)↔(id,d,s)∈L)): ∀i d' s',i<n→(aw m id none i=some (d',s')↔(i,d',s')∈out id L):=by
 intro i d' s' hi
 rw[o7]
 by_cases e:i=id
 ·subst e
  rw[aj]
  constructor
  ·intro q;cases q
  ·intro q;exact absurd rfl q.2
 ·rw[af _ _ _ _ e,hm i d' s' hi]
  exact⟨fun q=>⟨q,e⟩,fun q=>q.1⟩
theorem tE {id d s:Nat} {L:List Item} (h:Good n L) (hid:(id,d,s)∈L):(out id L).length+1=L.length:=by
 obtain⟨L1,L2,rfl⟩:=List.append_of_mem hid
 rw[show out id (L1++(id,d,s)::L2)=L1++L2 from wK (x:=(id,d,s)) h]
 simp only[List.length_append,List.length_cons]
 omega
theorem tj (h:km w b g n L) (id d s:Nat) (hid:id<n) (hno: ∀it∈L,it.1≠id):
  Calls Tryz.prog 200 #[.pointer (some ⟨b,0,none⟩),.int .i64 (id:Int),.int .u64 (d:Int),.int .u64 (s:Int)] w fun e w'=>e= .returned (.int .i64 0)∧km w' b g n (ins (id,d,s) L)∧aQ b g w w':=by
 obtain⟨h0,m,t,h1,h2,h3⟩:=h
 refine(vS h1 id d s hid (D6 h3 hid hno)).mono ?_
 rintro e w' ⟨he,t',p,hh,o⟩
 refine⟨he,⟨h0.ins (x:=(id,d,s)) hid hno,_,t',hh,?_,EO h3 hno⟩,o⟩
 have:=p.length_eq
 rw[ly,this,List.length_cons,h2]
theorem tC (h:km w b g n L) (id d s:Nat) (hid:(id,d,s)∈L):
  Calls Tryz.prog 187 #[.pointer (some ⟨b,0,none⟩),.int .i64 (id:Int)] w fun e w'=>e= .returned (.int .i64 0)∧km w' b g n (out id L)∧aQ b g w w':=by
 obtain⟨h0,m,t,h1,h2,h3⟩:=h
 have hi:=h0.jj _ hid
 refine(vq h1 id hi (Dy h3 hi hid)).mono ?_
 rintro e w' ⟨he,t',p,hh,o⟩
 refine⟨he,⟨h0.out id,_,t',hh,?_,E4 h3⟩,o⟩
 have:=p.length_eq
 rw[List.length_cons] at this
 have:=tE h0 hid
 omega
theorem so {x:Item} {id:Nat} (h0:Good n (x::L)) (hm: ∀id d s,id<n→(m id=some (d,s)↔(id,d,s)∈x::L)) (hf:tG n m id):id=x.1:=by
 obtain⟨hi,d,s,hd,hle⟩:=hf
 have h1:=(hm id d s hi).1 hd
 rcases List.mem_cons.1 h1 with e|e
 ·rw[←e]
 ·have h2:=(List.pairwise_cons.1 h0.srt).1 _ e
  have h3:=hle x.1 x.2.1 x.2.2 (h0.jj x (by simp)) ((hm x.1 x.2.1 x.2.2 (h0.jj x (by simp))).2 (by simp))
  unfold ah at h2
  simp only at h2
  omega
theorem BF {x:Item} (h:km w b g n (x::L)):
  Calls Tryz.prog 192 #[.pointer (some ⟨b,0,none⟩)] w fun e w'=>e= .returned (.tuple #[.int .i64 (x.1:Int),.bool true])∧ ∃q,w'=w.drewN q:=by
 obtain⟨h0,m,t,h1,h2,h3⟩:=h
 refine(DN h1 (by intro e;rw[e] at h2;simp at h2)).mono ?_
 rintro e w' ⟨id,hf,he,hq⟩
 have hx:=so h0 h3 hf
 subst hx
 exact⟨he,hq⟩
theorem km.rep (h:km w b g n L): ∃t D S I C A B T,aG w b g n (BT.root t) L.length D S I C A B T∧(L=[]→t=BT.nil)∧n≤1024∧kL n D S T∧(∀id,id<n→(T (id+1)=true↔ ∃it∈L,it.1=id))∧ ∀id,id<n→T (id+1)=true→(id,D (id+1),S (id+1))∈L:=by
 obtain⟨h0,m,t,⟨D,S,I,T,h1,hn,h4,h5⟩,h2,h3⟩:=h
 obtain⟨C,A,B,hR,_⟩:=h1.lk
 refine⟨t,D,S,I,C,A,B,T,h2▸hR,fun e=> ?_,hn,h5,fun id hi=> ?_,fun id hi hT=> ?_⟩
 ·subst e
  cases t with
  |nil=>rfl
  |node _ _ _=>simp[BT.ai] at h2
 ·constructor
  ·intro hT
   have:=h4 id hi
   rw[hT,if_pos rfl] at this
   exact⟨_,(h3 id _ _ hi).1 this,rfl⟩
  ·rintro⟨⟨i,d,s⟩,hm,rfl⟩
   have h6:=(h3 i d s hi).2 hm
   rw[h4 i hi] at h6
   cases hT:T (i+1) with
   |true=>rfl
   |false=>
    rw[hT] at h6
    cases h6
 ·have:=h4 id hi
  rw[hT,if_pos rfl] at this
  exact(h3 id _ _ hi).1 this
theorem km.kept {w':World} (h:km w b g n L) (hb:w'.heap[b]? =w.heap[b]?) (hg:w'.heap[g]? =w.heap[g]?):km w' b g n L:=by
 obtain⟨h0,m,t,⟨D,S,I,T,h1,hn,h4,h5⟩,h2,h3⟩:=h
 obtain⟨C,A,B,hR,hrow,hB⟩:=h1.lk
 exact⟨h0,m,t,⟨D,S,I,T,⟨⟨C,A,B,hR.kept hb hg,hrow,hB⟩,h1.wd,h1.od,h1.sp,h1.th,h1.id⟩,hn,h4,h5⟩,h2,h3⟩
theorem km.blocks (h:km w b g n L):b<w.heap.size∧g<w.heap.size∧b≠g:=by
 obtain⟨t,D,S,I,C,A,B,T,hR,_⟩:=h.rep
 exact⟨hR.ed,hR.eI,hR.bg⟩
theorem km.below {w':World} (h:km w b g n L) (hb:Below w.heap.size w w'):km w' b g n L:=h.kept (hb.block b h.blocks.1) (hb.block g h.blocks.2.1)
end
attribute [local go_sem ↓] Go.wp_at_zero Go.wp_at_succ
section
variable {w:World} {b g n:Nat} {L:List Item}
theorem BE (n:Nat) (w:World) (h1:1≤n) (h2:n≤1024):
  Calls Tryz.prog 72 #[.int .i64 n] w fun e w'=>e= .returned (.pointer (some ⟨w.heap.size+1,0,none⟩))∧km w' (w.heap.size+1) w.heap.size n []∧Below w.heap.size w w':=by
 refine(gy n w h1 h2).mono ?_
 rintro e w' ⟨he,hr,hb⟩
 refine⟨he,⟨Good.nil n,fun _=>none,.nil,⟨_,_,_,_,⟨⟨_,_,_,hr,trivial,rfl⟩,by simp[BT.wide],trivial,⟨by simp[BT.ai],by simp[BT.ai]⟩,fun y _=>by simp[BT.ai],by simp[BT.ai]⟩,h2,fun _ _=>rfl,fun _ _ _=>⟨rfl,rfl⟩⟩,rfl,fun _ _ _ _=>by simp⟩,hb⟩
theorem oj (h:km w b g n []):
  Calls Tryz.prog 192 #[.pointer (some ⟨b,0,none⟩)] w fun e w'=>e= .returned (.tuple #[.int .i64 0,.bool false])∧w'=w:=by
 obtain⟨t,D,S,I,C,A,B,T,hR,ht,_⟩:=h.rep
 rw[ht rfl] at hR
 exact zW hR
theorem pP (h:km w b g n L) (id:Nat) (hi:id<n) (hid: ∀it∈L,it.1≠id):
  Calls Tryz.prog 187 #[.pointer (some ⟨b,0,none⟩),.int .i64 (id:Int)] w fun e w'=>e= .returned (.int .i64 6)∧w'=w:=by
 obtain⟨t,D,S,I,C,A,B,T,hR,_,_,_,hT,_⟩:=h.rep
 refine qn hR id hi h.Gi ?_
 cases hh:T (id+1) with
 |false=>rfl
 |true=>
  obtain⟨it,hm,e⟩:=(hT id hi).1 hh
  exact absurd e (hid it hm)
theorem Cc (h:km w b g n L):
  Calls Tryz.prog 171 #[.pointer (some ⟨b,0,none⟩)] w fun e w'=>e= .returned (.int .i64 (L.length:Int))∧w'=w:=by
 obtain⟨t,D,S,I,C,A,B,T,hR,_⟩:=h.rep
 have e2:=hR.ct
 clear hR h
 go_enter Tryz.func171,Tryz.ntmps171
 go_wp2
 go_ret
 exact⟨rfl,rfl⟩
theorem uJ {rt ct:Nat} {D S I C A B:Nat→Nat} {T:Nat→Bool} (h:aG w b g n rt ct D S I C A B T) (id:Nat) (hi:id<n) (hn:n≤1024):
  Calls Tryz.prog 185 #[.pointer (some ⟨b,0,none⟩),.int .i64 id] w fun e w'=>e= .returned (.tuple #[.int .u64 (D (id+1):Nat),.int .u64 (S (id+1):Nat),.bool (T (id+1))])∧Below w.heap.size w w':=by
 have HM:=aa (fq h id hn hi)
 obtain⟨cp,e0⟩:=h.sl
 have c0:=h.nd (id+1) (by omega)
 have c1:=h.ns (id+1) (by omega)
 have c2:=h.ni (id+1) (by omega)
 have c3:=h.nc (id+1) (by omega)
 have c4:=h.na (id+1) (by omega)
 have c5:=h.nb (id+1) (by omega)
 have c6:=h.nt (id+1) (by omega)
 clear h
 generalize D (id+1)=d at*
 generalize S (id+1)=s at*
 generalize I (id+1)=i at*
 generalize C (id+1)=c at*
 generalize A (id+1)=a at*
 generalize B (id+1)=bb at*
 generalize T (id+1)=t at*
 go_enter Tryz.func185,Tryz.ntmps185
 go_wp2_with (go_at_call 197;refine(HM.out).mono ?_;rintro e w1 ⟨rfl,hw⟩;replace hw:=hw.symm;subst hw)
 go_quiet (fail)
 go_wp2
 go_ret3
 exact⟨rfl,below_drewN ((Below.refl _ _).alloc (Nat.le_refl _) _) _⟩
theorem uZ (h:km w b g n L) (id:Nat) (hi:id<n) (hid: ∀it∈L,it.1≠id):
  Calls Tryz.prog 185 #[.pointer (some ⟨b,0,none⟩),.int .i64 id] w fun e w'=>e= .returned (.tuple #[.int .u64 0,.int .u64 0,.bool false])∧Below w.heap.size w w':=by
 obtain⟨t,D,S,I,C,A,B,T,hR,_,hn,hW,hT,_⟩:=h.rep
 have hf:T (id+1)=false:=by
  cases hh:T (id+1) with
  |false=>rfl
  |true=>
   obtain⟨it,hm,e⟩:=(hT id hi).1 hh
   exact absurd e (hid it hm)
 have hg:=uJ hR id hi hn
 rw[hf,(hW id hi hf).1,(hW id hi hf).2] at hg
 exact hg
theorem vE (h:km w b g n L) (id d s:Nat) (hid:(id,d,s)∈L):
  Calls Tryz.prog 185 #[.pointer (some ⟨b,0,none⟩),.int .i64 id] w fun e w'=>e= .returned (.tuple #[.int .u64 d,.int .u64 s,.bool true])∧Below w.heap.size w w':=by
 obtain⟨t,D,S,I,C,A,B,T,hR,_,hn,hW,hT,hm⟩:=h.rep
 have hi:=h.qa.jj _ hid
 have hf:T (id+1)=true:=(hT id hi).2 ⟨_,hid,rfl⟩
 have he:=h.qa.uniq (hm id hi hf) hid rfl
 injection he with _ he
 injection he with he1 he2
 have hg:=uJ hR id hi hn
 rw[hf,he1,he2] at hg
 exact hg
end
end Go.Proofs.YtdbailcdlngemaaGreatDoor.Ph
namespace Go.Proofs.YtdbailcdlngemaaGreatDoor.Dc
open Go.RowKit Go.Lib
structure Fr (S:Nat→Prop) (w w':World):Prop where
 os:w'.os=w.os
 tape:w'.tape=w.tape
 output:w'.output=w.output
 size:w.heap.size≤w'.heap.size
 block: ∀k,k<w.heap.size→ ¬S k→w'.heap[k]? =w.heap[k]?
section
variable {S S':Nat→Prop} {w w' w'':World}
theorem Fr.aC (h:Below w.heap.size w w'):Fr S w w':=⟨h.os,h.tape,h.output,h.size,fun k hk _=>h.block k hk⟩
end
theorem aF {w:World} {base:Nat} {e:TypeId} {size:Nat} {v:Value} {n:Nat} {xs:List Value} (h:w.ownsRow base e size v n xs): ∃a c,v= .slice a n c:=by
 rcases h.2 with ⟨e,e0⟩|⟨g,cap,cur,e,_⟩
 ·exact⟨none,0,by rw[e,e0]⟩
 ·exact⟨_,_,e⟩
theorem tI {w w':World} {S:Nat→Prop} {base:Nat} {e:TypeId} {size:Nat} {v:Value} {n:Nat} {xs:List Value} (h:w.ownsRow base e size v n xs) (hf:Fr S w w') (h2: ∀k,base≤k→k<w.heap.size→ ¬S k):w'.ownsRow base e size v n xs:=by
 refine⟨h.1,?_⟩
 rcases h.2 with hn|⟨g,cap,cur,rfl,hb,hgg,rest⟩
 ·exact .inl hn
 ·refine .inr ⟨g,cap,cur,rfl,hb,?_,rest⟩
  rw[hf.block g (Array.getElem?_eq_some_iff.1 hgg).1 (h2 g hb (Array.getElem?_eq_some_iff.1 hgg).1)]
  exact hgg
attribute [local go_sem ↓] Go.wp_at_zero Go.wp_at_succ
@[go_sem high] theorem GY (a b : Ke.K) (w : World) : (binOp .neq 130 (.agg #[.bool a.e, .int .u64 a.d, .int .u8 a.l]) (.agg #[.bool b.e, .int .u64 b.d, .int .u8 b.l])).run Tryz.prog w = .ok (.bool (!Ke.same a b)) w := by
 simp[binOp,go_sem]
section
variable {w:World} {base rb n most:Nat} {v:Value} {R R1 R2:List En} {id:Nat} {k k':Ke.K}
end
end Go.Proofs.YtdbailcdlngemaaGreatDoor.Dc
namespace Go.Proofs.YtdbailcdlngemaaGreatDoor
open Go.RowKit
attribute [local go_sem ↓] Go.wp_at_zero Go.wp_at_succ
theorem aa {p:Prop} (h:p):Hid p:=h
structure St (w:World) (sb qb gq hb gh n most turn:Nat) (R:List (Nat×Nat)) (L:List Ph.Item):Prop where
 c0:w.cell? ⟨sb,0,none⟩=some (.pointer (some ⟨qb,0,none⟩))
 c1:w.cell? ⟨sb,1,none⟩=some (.pointer (some ⟨hb,0,none⟩))
 c2:w.cell? ⟨sb,2,none⟩=some (.int .i64 (n:Int))
 c3:w.cell? ⟨sb,3,none⟩=some (.int .i64 (most:Int))
 c4:w.cell? ⟨sb,4,none⟩=some (.int .u64 (turn:Int))
 fz: ∀o,w.frozen? ⟨sb,o,none⟩=false
 q:Bq.cw w qb gq n R
 h:Ph.km w hb gh n L
 ne:sb≠qb∧sb≠gq∧sb≠hb∧sb≠gh∧qb≠hb∧qb≠gh∧gq≠hb∧gq≠gh
section
variable {w w':World} {sb qb gq hb gh n most turn:Nat} {R:List (Nat×Nat)} {L:List Ph.Item}
theorem St.lt (h:St w sb qb gq hb gh n most turn R L):sb<w.heap.size:=World.block_lt_of_cell? w ⟨sb,0,none⟩ h.c0
theorem St.below (h:St w sb qb gq hb gh n most turn R L) (hw:Below w.heap.size w w'):St w' sb qb gq hb gh n most turn R L:=
 ⟨(hw.cell (p:=⟨sb,0,none⟩) h.lt).trans h.c0,(hw.cell (p:=⟨sb,1,none⟩) h.lt).trans h.c1,(hw.cell (p:=⟨sb,2,none⟩) h.lt).trans h.c2,(hw.cell (p:=⟨sb,3,none⟩) h.lt).trans h.c3,(hw.cell (p:=⟨sb,4,none⟩) h.lt).trans h.c4,fun o=>(World.frozen?_of_block (a:=⟨sb,o,none⟩) (hw.block sb h.lt)).trans (h.fz o),h.q.below hw,h.h.below hw,h.ne⟩
end
theorem BU (n most:Nat) (w:World) (h1:1≤n) (h2:n≤1024) (h3:1≤most) (h4:most≤n):
  Calls Tryz.prog 48 #[.int .i64 n,.int .i64 most] w fun e w'=> ∃sb qb gq hb gh,e= .returned (.pointer (some ⟨sb,0,none⟩))∧w.heap.size≤sb∧w.heap.size≤qb∧w.heap.size≤gq∧w.heap.size≤hb∧w.heap.size≤gh∧St w' sb qb gq hb gh n most 0 [] []∧Below w.heap.size w w':=by
 have HQ:=aa (Bq.gy n w h1 h2)
 have HH:=aa (fun W=>Ph.BE n W h1 h2)
 go_enter Tryz.func48,Tryz.ntmps48
 go_wp2_with (first
  |(go_at_call 71;refine(HQ.out).mono ?_;rintro e w1 ⟨rfl,hq,hb⟩;have HQ1:=aa hq;have HB1:=aa hb;clear hq hb)
  |(go_at_call 72;refine(HH.out _).mono ?_;rintro e w2 ⟨rfl,hq,hb⟩;have HH2:=aa hq;have HB2:=aa hb;clear hq hb))
 have HX:Hid (St (w2.alloc (.cells #[.pointer (some ⟨w.heap.size+1,0,none⟩),.pointer (some ⟨w1.heap.size+1,0,none⟩),.int .i64 (n:Int),.int .i64 (most:Int),.int .u64 0] 189)) w2.heap.size (w.heap.size+1) w.heap.size (w1.heap.size+1) w1.heap.size n most 0 [] []):=by
  have q1:=HQ1.out.below HB2.out
  have q2:=q1.below ((Below.refl _ _).alloc (Nat.le_refl _) (.cells #[.pointer (some ⟨w.heap.size+1,0,none⟩),.pointer (some ⟨w1.heap.size+1,0,none⟩),.int .i64 (n:Int),.int .i64 (most:Int),.int .u64 0] 189))
  have q3:=HH2.out.below ((Below.refl _ _).alloc (Nat.le_refl _) (.cells #[.pointer (some ⟨w.heap.size+1,0,none⟩),.pointer (some ⟨w1.heap.size+1,0,none⟩),.int .i64 (n:Int),.int .i64 (most:Int),.int .u64 0] 189))
  have b1:=HQ1.out.blocks
  have b2:=HH2.out.blocks
  have s1:=HB1.out.size
  have s2:=HB2.out.size
  exact⟨by rw[Ph.aA];rfl,by rw[Ph.aA];rfl,by rw[Ph.aA];rfl,by rw[Ph.aA];rfl,by rw[Ph.aA];rfl,fun o=>Ph.aD _ _ _ _,q2,q3,by omega⟩
 have HY:Hid (Below w.heap.size w (w2.alloc (.cells #[.pointer (some ⟨w.heap.size+1,0,none⟩),.pointer (some ⟨w1.heap.size+1,0,none⟩),.int .i64 (n:Int),.int .i64 (most:Int),.int .u64 0] 189))):=(HB1.out.trans (HB2.out.mono HB1.out.size)).alloc (Nat.le_trans HB1.out.size HB2.out.size) _
 have s1:=HB1.out.size
 have s2:=HB2.out.size
 go_ret
 exact⟨_,_,_,_,_,rfl,by omega,by omega,by omega,by omega,by omega,HX.out,HY.out⟩
section
variable {w:World} {sb qb gq hb gh n most turn:Nat} {R:List (Nat×Nat)} {L:List Ph.Item}
theorem jY (h:St w sb qb gq hb gh n most turn R L) (id:Nat) (hi:id<n) (hr: ∀it∈R,it.1≠id) (hl: ∀it∈L,it.1≠id):
  Calls Tryz.prog 156 #[.agg #[.pointer (some ⟨qb,0,none⟩),.pointer (some ⟨hb,0,none⟩)],.int .i64 (id:Int)] w fun e w'=>e= .returned (.tuple #[.agg #[.bool false,.int .u64 0,.int .u8 0],.bool false])∧Below w.heap.size w w':=by
 have hA:=((Below.refl w.heap.size w).alloc (Nat.le_refl _) (.cells #[.pointer (some ⟨qb,0,none⟩),.pointer (some ⟨hb,0,none⟩)] 187)).alloc (by simp) (.cells #[.bool false,.int .u64 0,.int .u8 0] 130)
 have HA:=aa hA
 have HS:=aa (h.below hA)
 have hz:((w.alloc (.cells #[.pointer (some ⟨qb,0,none⟩),.pointer (some ⟨hb,0,none⟩)] 187)).alloc (.cells #[.bool false,.int .u64 0,.int .u8 0] 130)).heap.size=w.heap.size+2:=by simp
 have HZ:=aa hz
 have c1:((w.alloc (.cells #[.pointer (some ⟨qb,0,none⟩),.pointer (some ⟨hb,0,none⟩)] 187)).alloc (.cells #[.bool false,.int .u64 0,.int .u8 0] 130)).cell? ⟨w.heap.size,1,none⟩=some (.pointer (some ⟨hb,0,none⟩)):=by
  rw[World.cell?_alloc_lt _ _ _ (by simp),Ph.aA];rfl
 have CK:Hid (∀i,((w.alloc (.cells #[.pointer (some ⟨qb,0,none⟩),.pointer (some ⟨hb,0,none⟩)] 187)).alloc (.cells #[.bool false,.int .u64 0,.int .u8 0] 130)).cell? ⟨w.heap.size+1,i,none⟩=(#[.bool false,.int .u64 0,.int .u8 0]:Array Value)[i]?):=fun i=>by
  rw[show w.heap.size+1=(w.alloc (.cells #[.pointer (some ⟨qb,0,none⟩),.pointer (some ⟨hb,0,none⟩)] 187)).heap.size by simp];exact Ph.aA _ _ _ _
 have CF:Hid (∀i,((w.alloc (.cells #[.pointer (some ⟨qb,0,none⟩),.pointer (some ⟨hb,0,none⟩)] 187)).alloc (.cells #[.bool false,.int .u64 0,.int .u8 0] 130)).frozen? ⟨w.heap.size+1,i,none⟩=false):=fun i=>by
  rw[show w.heap.size+1=(w.alloc (.cells #[.pointer (some ⟨qb,0,none⟩),.pointer (some ⟨hb,0,none⟩)] 187)).heap.size by simp];exact Ph.aD _ _ _ _
 have C1:=aa c1
 clear h hA hz c1
 go_enter Tryz.func156,Tryz.ntmps156
 go_wp2_with (first
  |(go_at_call 184;refine(Bq.ma HS.out.q hi hr).mono ?_;rintro e w1 ⟨rfl,hb1⟩;have HS1:=aa (HS.out.below hb1);have HB1:=aa hb1;have x1:=(hb1.cell (p:=⟨w.heap.size,1,none⟩) (by rw[HZ.out];simp)).trans C1.out;clear hb1)
  |(go_at_call 185;refine(Ph.uZ HS1.out.h id hi hl).mono ?_;rintro e w2 ⟨rfl,hb2⟩;have HB2:=aa (HB1.out.trans (hb2.mono HB1.out.size));have s2:=HB2.out.size;have k0:=(HB2.out.cell (p:=⟨w.heap.size+1,0,none⟩) (by rw[HZ.out];simp)).trans (CK.out 0);have k1:=(HB2.out.cell (p:=⟨w.heap.size+1,1,none⟩) (by rw[HZ.out];simp)).trans (CK.out 1);have k2:=(HB2.out.cell (p:=⟨w.heap.size+1,2,none⟩) (by rw[HZ.out];simp)).trans (CK.out 2);have f0:=(World.frozen?_of_block (a:=⟨w.heap.size+1,0,none⟩) (HB2.out.block (w.heap.size+1) (by rw[HZ.out];simp))).trans (CF.out 0);have f1:=(World.frozen?_of_block (a:=⟨w.heap.size+1,1,none⟩) (HB2.out.block (w.heap.size+1) (by rw[HZ.out];simp))).trans (CF.out 1);have f2:=(World.frozen?_of_block (a:=⟨w.heap.size+1,2,none⟩) (HB2.out.block (w.heap.size+1) (by rw[HZ.out];simp))).trans (CF.out 2);have hW:=aa ((HA.out.trans (HB2.out.mono (by rw[HZ.out];omega))));clear hb2))
 refine bodyPost_ret (v:= .tuple #[.agg #[.bool false,.int .u64 0,.int .u8 0],.bool false]) ?_ rfl ?_
 ·simp[results,Tryz.f156,go_sem,k0,k1,k2]
 ·refine⟨rfl,?_⟩
  exact((hW.out.setCell (p:=⟨w.heap.size+1,0,none⟩) (by simp) _).setCell (p:=⟨w.heap.size+1,1,none⟩) (by simp) _).setCell (p:=⟨w.heap.size+1,2,none⟩) (by simp) _
end
structure Fr (S:Nat→Prop) (w w':World):Prop where
 os:w'.os=w.os
 tape:w'.tape=w.tape
 output:w'.output=w.output
 size:w.heap.size≤w'.heap.size
 block: ∀k,k<w.heap.size→ ¬S k→w'.heap[k]? =w.heap[k]?
section
variable {S S':Nat→Prop} {w w' w'':World}
theorem Fr.refl (S:Nat→Prop) (w:World):Fr S w w:=⟨rfl,rfl,rfl,Nat.le_refl _,fun _ _ _=>rfl⟩
theorem Fr.wide (h:Fr S w w') (hs: ∀k,k<w.heap.size→S k→S' k):Fr S' w w':=⟨h.os,h.tape,h.output,h.size,fun k hk hn=>h.block k hk (fun q=>hn (hs k hk q))⟩
theorem Fr.trans (h:Fr S w w') (h':Fr S w' w''):Fr S w w'':=
 ⟨h'.os.trans h.os,h'.tape.trans h.tape,h'.output.trans h.output,Nat.le_trans h.size h'.size,fun k hk hn=>(h'.block k (Nat.lt_of_lt_of_le hk h.size) hn).trans (h.block k hk hn)⟩
theorem Fr.alloc (h:Fr S w w') (o:Obj):Fr S w (w'.alloc o):=
 ⟨h.os,h.tape,h.output,Nat.le_trans h.size (by simp),fun k hk hn=>(Below.heap_alloc _ _ _ (Nat.lt_of_lt_of_le hk h.size)).trans (h.block k hk hn)⟩
theorem Fr.setCell (h:Fr S w w') {a:Addr} (hb:S a.block) (u:Value):Fr S w (w'.setCell a u):=
 ⟨h.os,h.tape,h.output,by simpa using h.size,fun k hk hn=>(Below.heap_setCell _ _ _ _ (fun e=>hn (by rw[e];exact hb))).trans (h.block k hk hn)⟩
theorem Fr.drewN (h:Fr S w w') (q:Nat):Fr S w (w'.drewN q):=⟨h.os,h.tape,h.output,h.size,h.block⟩
theorem Fr.cell (h:Fr S w w') {a:Addr} (hk:a.block<w.heap.size) (hn: ¬S a.block):w'.cell? a=w.cell? a:=World.cell?_of_block (h.block _ hk hn)
theorem Fr.frozen (h:Fr S w w') {a:Addr} (hk:a.block<w.heap.size) (hn: ¬S a.block):w'.frozen? a=w.frozen? a:=World.frozen?_of_block (h.block _ hk hn)
theorem Fr.aC (h:Below w.heap.size w w'):Fr S w w':=⟨h.os,h.tape,h.output,h.size,fun k hk _=>h.block k hk⟩
theorem Fr.below {B:Nat} (h:Fr S w w') (hb:B≤w.heap.size) (hs: ∀k,S k→B≤k):Below B w w':=⟨h.os,h.tape,h.output,h.size,fun k hk=>h.block k (by omega) (fun q=>by have:=hs k q;omega)⟩
end
theorem Fr.Be {b g:Nat} {w w':World} (h:Bq.aQ b g w w'):Fr (fun k=>k=b∨k=g) w w':=⟨h.os,h.tape,h.output,h.size,fun k hk hn=>h.block k hk (fun e=>hn (.inl e)) (fun e=>hn (.inr e))⟩
theorem Fr.Cr {b g:Nat} {w w':World} (h:Ph.aQ b g w w'):Fr (fun k=>k=b∨k=g) w w':=⟨h.os,h.tape,h.output,h.size,fun k hk hn=>h.block k hk (fun e=>hn (.inl e)) (fun e=>hn (.inr e))⟩
section
variable {w w':World} {sb qb gq hb gh n most turn:Nat} {R R':List (Nat×Nat)} {L L':List Ph.Item}
theorem St.GN (h:St w sb qb gq hb gh n most turn R L) (hq:Bq.cw w' qb gq n R') (hf:Fr (fun k=>k=qb∨k=gq) w w'):St w' sb qb gq hb gh n most turn R' L:=by
 have hne:=h.ne
 have k1: ¬(sb=qb∨sb=gq):=by omega
 have hbl:=h.h.blocks
 exact⟨(hf.cell (a:=⟨sb,0,none⟩) h.lt k1).trans h.c0,(hf.cell (a:=⟨sb,1,none⟩) h.lt k1).trans h.c1,(hf.cell (a:=⟨sb,2,none⟩) h.lt k1).trans h.c2,(hf.cell (a:=⟨sb,3,none⟩) h.lt k1).trans h.c3,(hf.cell (a:=⟨sb,4,none⟩) h.lt k1).trans h.c4,fun o=>(hf.frozen (a:=⟨sb,o,none⟩) h.lt k1).trans (h.fz o),hq,h.h.kept (hf.block hb hbl.1 (by omega)) (hf.block gh hbl.2.1 (by omega)),hne⟩
theorem St.GO (h:St w sb qb gq hb gh n most turn R L) (hh:Ph.km w' hb gh n L') (hf:Fr (fun k=>k=hb∨k=gh) w w'):St w' sb qb gq hb gh n most turn R L':=by
 have hne:=h.ne
 have k1: ¬(sb=hb∨sb=gh):=by omega
 have hbl:=h.q.blocks
 exact⟨(hf.cell (a:=⟨sb,0,none⟩) h.lt k1).trans h.c0,(hf.cell (a:=⟨sb,1,none⟩) h.lt k1).trans h.c1,(hf.cell (a:=⟨sb,2,none⟩) h.lt k1).trans h.c2,(hf.cell (a:=⟨sb,3,none⟩) h.lt k1).trans h.c3,(hf.cell (a:=⟨sb,4,none⟩) h.lt k1).trans h.c4,fun o=>(hf.frozen (a:=⟨sb,o,none⟩) h.lt k1).trans (h.fz o),h.q.kept (hf.block qb hbl.1 (by omega)) (hf.block gq hbl.2.1 (by omega)),hh,hne⟩
theorem vJ (h:St w sb qb gq hb gh n most turn R L) (id:Nat) (hi:id<n) (hr: ∀it∈R,it.1≠id) (d s:Nat) (hl:(id,d,s)∈L):
  Calls Tryz.prog 156 #[.agg #[.pointer (some ⟨qb,0,none⟩),.pointer (some ⟨hb,0,none⟩)],.int .i64 (id:Int)] w fun e w'=>e= .returned (.tuple #[.agg #[.bool true,.int .u64 (d:Int),.int .u8 0],.bool true])∧Below w.heap.size w w':=by
 have hA:=((Below.refl w.heap.size w).alloc (Nat.le_refl _) (.cells #[.pointer (some ⟨qb,0,none⟩),.pointer (some ⟨hb,0,none⟩)] 187)).alloc (by simp) (.cells #[.bool false,.int .u64 0,.int .u8 0] 130)
 have HA:=aa hA
 have HS:=aa (h.below hA)
 have hz:((w.alloc (.cells #[.pointer (some ⟨qb,0,none⟩),.pointer (some ⟨hb,0,none⟩)] 187)).alloc (.cells #[.bool false,.int .u64 0,.int .u8 0] 130)).heap.size=w.heap.size+2:=by simp
 have HZ:=aa hz
 have c1:((w.alloc (.cells #[.pointer (some ⟨qb,0,none⟩),.pointer (some ⟨hb,0,none⟩)] 187)).alloc (.cells #[.bool false,.int .u64 0,.int .u8 0] 130)).cell? ⟨w.heap.size,1,none⟩=some (.pointer (some ⟨hb,0,none⟩)):=by
  rw[World.cell?_alloc_lt _ _ _ (by simp),Ph.aA];rfl
 have CK:Hid (∀i,((w.alloc (.cells #[.pointer (some ⟨qb,0,none⟩),.pointer (some ⟨hb,0,none⟩)] 187)).alloc (.cells #[.bool false,.int .u64 0,.int .u8 0] 130)).cell? ⟨w.heap.size+1,i,none⟩=(#[.bool false,.int .u64 0,.int .u8 0]:Array Value)[i]?):=fun i=>by
  rw[show w.heap.size+1=(w.alloc (.cells #[.pointer (some ⟨qb,0,none⟩),.pointer (some ⟨hb,0,none⟩)] 187)).heap.size by simp];exact Ph.aA _ _ _ _
 have CF:Hid (∀i,((w.alloc (.cells #[.pointer (some ⟨qb,0,none⟩),.pointer (some ⟨hb,0,none⟩)] 187)).alloc (.cells #[.bool false,.int .u64 0,.int .u8 0] 130)).frozen? ⟨w.heap.size+1,i,none⟩=false):=fun i=>by
  rw[show w.heap.size+1=(w.alloc (.cells #[.pointer (some ⟨qb,0,none⟩),.pointer (some ⟨hb,0,none⟩)] 187)).heap.size by simp];exact Ph.aD _ _ _ _
 have C1:=aa c1
 clear h hA hz c1
 go_enter Tryz.func156,Tryz.ntmps156
 go_wp2_with (first
  |(go_at_call 184;refine(Bq.ma HS.out.q hi hr).mono ?_;rintro e w1 ⟨rfl,hb1⟩;have HS1:=aa (HS.out.below hb1);have HB1:=aa hb1;have x1:=(hb1.cell (p:=⟨w.heap.size,1,none⟩) (by rw[HZ.out];simp)).trans C1.out;clear hb1)
  |(go_at_call 185;refine(Ph.vE HS1.out.h id d s hl).mono ?_;rintro e w3 ⟨rfl,hb3⟩;have HB3:=aa (HB1.out.trans (hb3.mono HB1.out.size));clear hb3)
  |(go_at_call 114;refine(Ke.ph _ (d:Int)).mono ?_;rintro e w2 ⟨rfl,hb2⟩;have HB2:=aa (HB3.out.trans (hb2.mono HB3.out.size));have s2:=HB2.out.size;have k0:=(HB2.out.cell (p:=⟨w.heap.size+1,0,none⟩) (by rw[HZ.out];simp)).trans (CK.out 0);have k1:=(HB2.out.cell (p:=⟨w.heap.size+1,1,none⟩) (by rw[HZ.out];simp)).trans (CK.out 1);have k2:=(HB2.out.cell (p:=⟨w.heap.size+1,2,none⟩) (by rw[HZ.out];simp)).trans (CK.out 2);have f0:=(World.frozen?_of_block (a:=⟨w.heap.size+1,0,none⟩) (HB2.out.block (w.heap.size+1) (by rw[HZ.out];simp))).trans (CF.out 0);have f1:=(World.frozen?_of_block (a:=⟨w.heap.size+1,1,none⟩) (HB2.out.block (w.heap.size+1) (by rw[HZ.out];simp))).trans (CF.out 1);have f2:=(World.frozen?_of_block (a:=⟨w.heap.size+1,2,none⟩) (HB2.out.block (w.heap.size+1) (by rw[HZ.out];simp))).trans (CF.out 2);have hW:=aa ((HA.out.trans (HB2.out.mono (by rw[HZ.out];omega))));clear hb2))
 refine bodyPost_ret (v:= .tuple #[.agg #[.bool true,.int .u64 (d:Int),.int .u8 0],.bool true]) ?_ rfl ?_
 ·simp[results,Tryz.f156,go_sem,k0,k1,k2,Ke.cf]
 ·refine⟨rfl,?_⟩
  exact((hW.out.setCell (p:=⟨w.heap.size+1,0,none⟩) (by simp) _).setCell (p:=⟨w.heap.size+1,1,none⟩) (by simp) _).setCell (p:=⟨w.heap.size+1,2,none⟩) (by simp) _
theorem tz (h:St w sb qb gq hb gh n most turn R L) (id lv tn:Nat) (hi:id<n) (hlv:lv<256) (hno: ∀it∈R,it.1≠id):
  Calls Tryz.prog 188 #[.agg #[.pointer (some ⟨qb,0,none⟩),.pointer (some ⟨hb,0,none⟩)],.int .i64 (id:Int),.agg #[.bool false,.int .u64 0,.int .u8 (lv:Int)],.int .u64 (tn:Int)] w fun e w'=>e= .returned (.tuple #[])∧St w' sb qb gq hb gh n most turn (R++[(id,lv)]) L∧Fr (fun k=>k=qb∨k=gq) w w':=by
 have hA:=((Below.refl w.heap.size w).alloc (Nat.le_refl _) (.cells #[.pointer (some ⟨qb,0,none⟩),.pointer (some ⟨hb,0,none⟩)] 187)).alloc (by simp) (.cells #[.bool false,.int .u64 0,.int .u8 (lv:Int)] 130)
 have HA:=aa hA
 have HS:=aa (h.below hA)
 clear h hA
 go_enter Tryz.func188,Tryz.ntmps188
 go_wp2_with (go_at_call 201;refine(Bq.BM _ qb gq n R id lv HS.out.q hi hlv hno).mono ?_;rintro e w1 ⟨rfl,hq,ho⟩;have HX:=aa (HS.out.GN hq (Fr.Be ho));have HF:=aa ((Fr.aC HA.out).trans (Fr.Be ho));clear hq ho)
 go_end0
 exact⟨rfl,HX.out,HF.out⟩
theorem wk (h:St w sb qb gq hb gh n most turn R L) (id d tn:Nat) (hi:id<n) (hno: ∀it∈L,it.1≠id):
  Calls Tryz.prog 188 #[.agg #[.pointer (some ⟨qb,0,none⟩),.pointer (some ⟨hb,0,none⟩)],.int .i64 (id:Int),.agg #[.bool true,.int .u64 (d:Int),.int .u8 0],.int .u64 (tn:Int)] w fun e w'=>e= .returned (.tuple #[])∧St w' sb qb gq hb gh n most turn R (Ph.ins (id,d,tn) L)∧Fr (fun k=>k=hb∨k=gh) w w':=by
 have hA:=((Below.refl w.heap.size w).alloc (Nat.le_refl _) (.cells #[.pointer (some ⟨qb,0,none⟩),.pointer (some ⟨hb,0,none⟩)] 187)).alloc (by simp) (.cells #[.bool true,.int .u64 (d:Int),.int .u8 0] 130)
 have HA:=aa hA
 have HS:=aa (h.below hA)
 clear h hA
 go_enter Tryz.func188,Tryz.ntmps188
 go_wp2_with (go_at_call 200;refine(Ph.tj HS.out.h id d tn hi hno).mono ?_;rintro e w1 ⟨rfl,hq,ho⟩;have HX:=aa (HS.out.GO hq (Fr.Cr ho));have HF:=aa ((Fr.aC HA.out).trans (Fr.Cr ho));clear hq ho)
 go_end0
 exact⟨rfl,HX.out,HF.out⟩
end
section
variable {w w':World} {sb qb gq hb gh n most turn:Nat} {R R':List (Nat×Nat)} {L L':List Ph.Item}
theorem St.gU (h:St w sb qb gq hb gh n most turn R L) (t:Nat):St (w.setCell ⟨sb,4,none⟩ (.int .u64 (t:Int))) sb qb gq hb gh n most t R L:=by
 have hf:Fr (fun k=>k=sb) w (w.setCell ⟨sb,4,none⟩ (.int .u64 (t:Int))):=Fr.setCell (S:=fun k=>k=sb) (a:=⟨sb,4,none⟩) (Fr.refl _ _) rfl _
 have hne:=h.ne
 have b1:=h.q.blocks
 have b2:=h.h.blocks
 exact⟨by rw[Ph.ab _ _ _ _ _ _ (by omega)];exact h.c0,by rw[Ph.ab _ _ _ _ _ _ (by omega)];exact h.c1,by rw[Ph.ab _ _ _ _ _ _ (by omega)];exact h.c2,by rw[Ph.ab _ _ _ _ _ _ (by omega)];exact h.c3,Ph.au _ _ _ _ h.c4,fun o=>by rw[World.frozen?_setCell];exact h.fz o,h.q.kept (hf.block qb b1.1 (by omega)) (hf.block gq b1.2.1 (by omega)),h.h.kept (hf.block hb b2.1 (by omega)) (hf.block gh b2.2.1 (by omega)),hne⟩
theorem o9 (h:St w sb qb gq hb gh n most turn R L) (id:Nat) (hi:id<n) (k:Ke.K) (hk:Ke.aJ k=true):
  Calls Tryz.prog 155 #[.pointer (some ⟨sb,0,none⟩),.int .i64 (id:Int),.agg #[.bool k.e,.int .u64 k.d,.int .u8 k.l]] w fun e w'=>e= .returned (.int .i64 0)∧Below w.heap.size w w':=by
 have c2:=h.c2
 have hlt:=h.lt
 have hn:=h.h.Gi
 have hR: ∀W,Calls Tryz.prog 112 #[.agg #[.bool k.e,.int .u64 k.d,.int .u8 k.l]] W fun e w'=>e= .returned (.bool true)∧Below W.heap.size W w':=fun W=>by
  have:=Ke.cY W k
  rw[hk] at this
  exact this
 have HR:=aa hR
 clear h hR hk
 go_enter Tryz.func155,Tryz.ntmps155
 go_wp2_with (go_at_call 112;refine(HR.out _).mono ?_;rintro e w1 ⟨rfl,hb1⟩;have HB:=aa (((Below.refl w.heap.size w).alloc (Nat.le_refl _) _).trans (hb1.mono (by simp)));clear hb1)
 go_ret
 exact⟨rfl,HB.out⟩
theorem pN (h:St w sb qb gq hb gh n most turn R L) (hl:R.length+L.length≤4096):
  Calls Tryz.prog 137 #[.pointer (some ⟨sb,0,none⟩)] w fun e w'=>e= .returned (.int .i64 ((R.length+L.length:Nat):Int))∧Below w.heap.size w w':=by
 have c0:=h.c0
 have c1:=h.c1
 have HQ:=aa h.q
 have HH:=aa h.h
 have hwr:IntKind.i64.wrap ((R.length:Int)+(L.length:Int))=(R.length:Int)+(L.length:Int):=by simp[IntKind.wrap,IntKind.bits,IntKind.signed];omega
 clear h
 go_enter Tryz.func137,Tryz.ntmps137
 go_wp2
 go_region_held3 (fun w'=>w'.cell? ⟨sb,0,none⟩=some (.pointer (some ⟨qb,0,none⟩))∧w'.cell? ⟨sb,1,none⟩=some (.pointer (some ⟨hb,0,none⟩)))
  (first|go_keep)
  (first
   |(go_at_call 170;refine(Bq.Dk _ qb gq n R (HQ.out.kept (w':=w.drew) rfl rfl)).mono ?_;rintro e w1 ⟨rfl,hw⟩;replace hw:=hw.symm;subst hw)
   |(go_at_call 171;refine(Ph.Cc (HH.out.kept (w':=w.drew) rfl rfl)).mono ?_;rintro e w1 ⟨rfl,hw⟩;replace hw:=hw.symm;subst hw))
 go_wp2
 go_ret
 exact⟨by simp,(Below.refl _ _).drew⟩
theorem mf (h:St w sb qb gq hb gh n most turn R L) (ht:turn≤1000000000) (id lv:Nat) (hi:id<n) (hlv:lv<256) (hno: ∀it∈R,it.1≠id):
  Calls Tryz.prog 158 #[.pointer (some ⟨sb,0,none⟩),.int .i64 (id:Int),.agg #[.bool false,.int .u64 0,.int .u8 (lv:Int)]] w fun e w'=>e= .returned (.tuple #[])∧St w' sb qb gq hb gh n most (turn+1) (R++[(id,lv)]) L∧Fr (fun k=>k=sb∨k=qb∨k=gq) w w':=by
 have hA:=(Below.refl w.heap.size w).alloc (Nat.le_refl _) (.cells #[.bool false,.int .u64 0,.int .u8 (lv:Int)] 130)
 have hS:=h.below hA
 have c0:=hS.c0
 have c1:=hS.c1
 have c4:=hS.c4
 have HA:=aa hA
 have HS:=aa hS
 have HP:=aa (fun q=>tz (hS.below (below_drewN (Below.refl _ _) q)) id lv turn hi hlv hno)
 have HC:Hid (∀i v,i<3→(#[.bool false,.int .u64 0,.int .u8 (lv:Int)]:Array Value)[i]? =some v→(w.alloc (.cells #[.bool false,.int .u64 0,.int .u8 (lv:Int)] 130)).cell? ⟨w.heap.size,i,none⟩=some v):=fun i v _ e=>by rw[Ph.aA];exact e
 have NQ:Hid (¬(w.heap.size=qb∨w.heap.size=gq)):=by have:=h.q.blocks;unfold Hid;omega
 clear h hS hA
 go_enter Tryz.func158,Tryz.ntmps158
 go_wp2
 go_region_held3 (fun w'=>w'.cell? ⟨sb,0,none⟩=some (.pointer (some ⟨qb,0,none⟩))∧w'.cell? ⟨sb,1,none⟩=some (.pointer (some ⟨hb,0,none⟩))∧w'.cell? ⟨sb,4,none⟩=some (.int .u64 (turn:Int))∧w'.cell? ⟨w.heap.size,0,none⟩=some (.bool false)∧w'.cell? ⟨w.heap.size,1,none⟩=some (.int .u64 0)∧w'.cell? ⟨w.heap.size,2,none⟩=some (.int .u8 (lv:Int)))
  (first|exact HK.out|go_keep)
  ((go_at_call 188;refine(HP.out 1).mono ?_;rintro e w1 ⟨rfl,hx,hf⟩;have HX:=aa hx;have HF:=aa hf;have d4:=hx.c4;have f4:=hx.fz 4;have hsb:=hx.lt;have HK:=aa (And.intro hx.c0 (And.intro hx.c1 (And.intro hx.c4 (And.intro ((hf.cell (a:=⟨w.heap.size,0,none⟩) (by simp) NQ.out).trans (HC.out 0 _ (by decide) rfl)) (And.intro ((hf.cell (a:=⟨w.heap.size,1,none⟩) (by simp) NQ.out).trans (HC.out 1 _ (by decide) rfl)) ((hf.cell (a:=⟨w.heap.size,2,none⟩) (by simp) NQ.out).trans (HC.out 2 _ (by decide) rfl)))))));clear hx hf))
 go_wp2
 go_end0
 exact⟨rfl,HX.out.gU (turn+1),Fr.setCell (S:=fun k=>k=sb∨k=qb∨k=gq) (a:=⟨sb,4,none⟩) (((Fr.aC HA.out).drewN 1).trans (HF.out.wide (fun k _ q=> .inr q))) (.inl rfl) _⟩
theorem oL (h:St w sb qb gq hb gh n most turn R L) (ht:turn≤1000000000) (id d:Nat) (hi:id<n) (hno: ∀it∈L,it.1≠id):
  Calls Tryz.prog 158 #[.pointer (some ⟨sb,0,none⟩),.int .i64 (id:Int),.agg #[.bool true,.int .u64 (d:Int),.int .u8 0]] w fun e w'=>e= .returned (.tuple #[])∧St w' sb qb gq hb gh n most (turn+1) R (Ph.ins (id,d,turn) L)∧Fr (fun k=>k=sb∨k=hb∨k=gh) w w':=by
 have hA:=(Below.refl w.heap.size w).alloc (Nat.le_refl _) (.cells #[.bool true,.int .u64 (d:Int),.int .u8 0] 130)
 have hS:=h.below hA
 have c0:=hS.c0
 have c1:=hS.c1
 have c4:=hS.c4
 have HA:=aa hA
 have HS:=aa hS
 have HP:=aa (fun q=>wk (hS.below (below_drewN (Below.refl _ _) q)) id d turn hi hno)
 have HC:Hid (∀i v,i<3→(#[.bool true,.int .u64 (d:Int),.int .u8 0]:Array Value)[i]? =some v→(w.alloc (.cells #[.bool true,.int .u64 (d:Int),.int .u8 0] 130)).cell? ⟨w.heap.size,i,none⟩=some v):=fun i v _ e=>by rw[Ph.aA];exact e
 have NQ:Hid (¬(w.heap.size=hb∨w.heap.size=gh)):=by have:=h.h.blocks;unfold Hid;omega
 clear h hS hA
 go_enter Tryz.func158,Tryz.ntmps158
 go_wp2
 go_region_held3 (fun w'=>w'.cell? ⟨sb,0,none⟩=some (.pointer (some ⟨qb,0,none⟩))∧w'.cell? ⟨sb,1,none⟩=some (.pointer (some ⟨hb,0,none⟩))∧w'.cell? ⟨sb,4,none⟩=some (.int .u64 (turn:Int))∧w'.cell? ⟨w.heap.size,0,none⟩=some (.bool true)∧w'.cell? ⟨w.heap.size,1,none⟩=some (.int .u64 (d:Int))∧w'.cell? ⟨w.heap.size,2,none⟩=some (.int .u8 0))
  (first|exact HK.out|go_keep)
  ((go_at_call 188;refine(HP.out 1).mono ?_;rintro e w1 ⟨rfl,hx,hf⟩;have HX:=aa hx;have HF:=aa hf;have d4:=hx.c4;have f4:=hx.fz 4;have hsb:=hx.lt;have HK:=aa (And.intro hx.c0 (And.intro hx.c1 (And.intro hx.c4 (And.intro ((hf.cell (a:=⟨w.heap.size,0,none⟩) (by simp) NQ.out).trans (HC.out 0 _ (by decide) rfl)) (And.intro ((hf.cell (a:=⟨w.heap.size,1,none⟩) (by simp) NQ.out).trans (HC.out 1 _ (by decide) rfl)) ((hf.cell (a:=⟨w.heap.size,2,none⟩) (by simp) NQ.out).trans (HC.out 2 _ (by decide) rfl)))))));clear hx hf))
 go_wp2
 go_end0
 exact⟨rfl,HX.out.gU (turn+1),Fr.setCell (S:=fun k=>k=sb∨k=hb∨k=gh) (a:=⟨sb,4,none⟩) (((Fr.aC HA.out).drewN 1).trans (HF.out.wide (fun k _ q=> .inr q))) (.inl rfl) _⟩
end
section
variable {w w':World} {sb qb gq hb gh n most turn:Nat} {R R':List (Nat×Nat)} {L L':List Ph.Item}
theorem sk (h:St w sb qb gq hb gh n most turn R L) (ht:turn≤1000000000) (id lv:Nat) (hi:id<n) (hlv:lv<256) (hr: ∀it∈R,it.1≠id) (hl: ∀it∈L,it.1≠id) (hlen:R.length+L.length<most) (hm:most≤1024):
  Calls Tryz.prog 167 #[.pointer (some ⟨sb,0,none⟩),.int .i64 (id:Int),.agg #[.bool false,.int .u64 0,.int .u8 (lv:Int)]] w fun e w'=>e= .returned (.int .i64 0)∧St w' sb qb gq hb gh n most (turn+1) (R++[(id,lv)]) L∧Fr (fun k=>k=sb∨k=qb∨k=gq) w w':=by
 have hA:=(Below.refl w.heap.size w).alloc (Nat.le_refl _) (.cells #[.bool false,.int .u64 0,.int .u8 (lv:Int)] 130)
 have hS:=h.below hA
 have hz:(w.alloc (.cells #[.bool false,.int .u64 0,.int .u8 (lv:Int)] 130)).heap.size=w.heap.size+1:=by simp
 have HZ:=aa hz
 have hMay:=o9 hS id hi ⟨false,0,(lv:Int)⟩ (by simp[Ke.aJ])
 have HMay:=aa hMay
 have hlt:=h.lt
 have HS:=aa hS
 have HA:=aa hA
 have HB0:Hid (∀W,Below (w.heap.size+1) (w.alloc (.cells #[.bool false,.int .u64 0,.int .u8 (lv:Int)] 130)) W→St W sb qb gq hb gh n most turn R L∧W.cell? ⟨w.heap.size,0,none⟩=(#[.bool false,.int .u64 0,.int .u8 (lv:Int)]:Array Value)[0]? ∧W.cell? ⟨w.heap.size,1,none⟩=(#[.bool false,.int .u64 0,.int .u8 (lv:Int)]:Array Value)[1]? ∧W.cell? ⟨w.heap.size,2,none⟩=(#[.bool false,.int .u64 0,.int .u8 (lv:Int)]:Array Value)[2]? ∧w.heap.size+1≤W.heap.size):=fun W hW=>by
  refine⟨hS.below (by rw[hz];exact hW),?_,?_,?_,by rw[←hz];exact hW.size⟩
  ·rw[hW.cell (p:=⟨w.heap.size,0,none⟩) (by simp),Ph.aA]
  ·rw[hW.cell (p:=⟨w.heap.size,1,none⟩) (by simp),Ph.aA]
  ·rw[hW.cell (p:=⟨w.heap.size,2,none⟩) (by simp),Ph.aA]
 have HRL:=aa hlen
 have HIR:=aa hr
 have HIL:=aa hl
 clear h hS hA hz hMay hlen hr hl
 go_enter Tryz.func167,Tryz.ntmps167
 go_wp2_with (first
  |(go_at_call 155;refine(HMay.out).mono ?_;rintro e w1 ⟨rfl,hb1⟩;have HB1:=aa (show Below (w.heap.size+1) _ w1 by rw[←HZ.out];exact hb1);obtain⟨hs1,k10,k11,k12,hz1⟩:=HB0.out _ HB1.out;have HS1:=aa hs1;have c10:=hs1.c0;have c11:=hs1.c1;clear hb1 hs1)
  |(go_at_call 156;refine(jY HS1.out id hi HIR.out HIL.out).mono ?_;rintro e w2 ⟨rfl,hb2⟩;have HB2:=aa (HB1.out.trans (hb2.mono hz1));obtain⟨hs2,k20,k21,k22,hz2⟩:=HB0.out _ HB2.out;have HS2:=aa hs2;have c23:=hs2.c3;clear hb2 hs2))
 have HW3:=aa (show Below (w.heap.size+1) (w.alloc (.cells #[.bool false,.int .u64 0,.int .u8 (lv:Int)] 130)) ((w2.alloc (.cells #[.bool false,.int .u64 0,.int .u8 0] 130)).drew) from(HB2.out.alloc hz2 _).drew)
 have HS3:=aa (HB0.out _ HW3.out).1
 have c33:=HS3.out.c3
 have hll:R.length+L.length≤4096:=by have:=HRL.out;omega
 generalize hNN:R.length+L.length=NN at*
 have HLn:Hid (Calls Tryz.prog 137 #[.pointer (some ⟨sb,0,none⟩)] ((w2.alloc (.cells #[.bool false,.int .u64 0,.int .u8 0] 130)).drew) fun e w'=>e= .returned (.int .i64 (NN:Int))∧Below ((w2.alloc (.cells #[.bool false,.int .u64 0,.int .u8 0] 130)).drew).heap.size ((w2.alloc (.cells #[.bool false,.int .u64 0,.int .u8 0] 130)).drew) w'):=by
  have:=pN HS3.out (by rw[hNN];exact hll)
  rw[hNN] at this
  exact this
 have hne: ¬(NN:Int)=(most:Int):=by have:=HRL.out;omega
 have hne2: ¬NN=most:=by have:=HRL.out;omega
 clear k10 k11 k12 k20 k21 k22 c10 c11 c23 hNN
 go_region_held3 (fun w'=>w'.cell? ⟨sb,3,none⟩=some (.int .i64 (most:Int)))
  (first|exact c43|go_keep)
  ((go_at_call 137;refine(HLn.out).mono ?_;rintro e w3 ⟨rfl,hb3⟩;have HB3:=aa (HW3.out.trans (hb3.mono (by simp;omega)));obtain⟨hs3,k30,k31,k32,hz3⟩:=HB0.out _ HB3.out;have HS4:=aa hs3;have c43:=hs3.c3;clear hb3 hs3))
 have HPut:=aa (mf HS4.out ht id lv hi hlv HIR.out)
 go_wp2_with (go_at_call 158;refine(HPut.out).mono ?_;rintro e w4 ⟨rfl,hx,hf⟩;have HX:=aa hx;have HF:=aa hf;clear hx hf)
 go_ret
 exact⟨rfl,HX.out,(Fr.aC (((Below.refl w.heap.size w).alloc (Nat.le_refl _) _).trans (HB3.out.mono (by omega)))).trans HF.out⟩
theorem wx (h:St w sb qb gq hb gh n most turn R L) (ht:turn≤1000000000) (id d:Nat) (hi:id<n) (hr: ∀it∈R,it.1≠id) (hl: ∀it∈L,it.1≠id) (hlen:R.length+L.length<most) (hm:most≤1024):
  Calls Tryz.prog 167 #[.pointer (some ⟨sb,0,none⟩),.int .i64 (id:Int),.agg #[.bool true,.int .u64 (d:Int),.int .u8 0]] w fun e w'=>e= .returned (.int .i64 0)∧St w' sb qb gq hb gh n most (turn+1) R (Ph.ins (id,d,turn) L)∧Fr (fun k=>k=sb∨k=hb∨k=gh) w w':=by
 have hA:=(Below.refl w.heap.size w).alloc (Nat.le_refl _) (.cells #[.bool true,.int .u64 (d:Int),.int .u8 0] 130)
 have hS:=h.below hA
 have hz:(w.alloc (.cells #[.bool true,.int .u64 (d:Int),.int .u8 0] 130)).heap.size=w.heap.size+1:=by simp
 have HZ:=aa hz
 have hMay:=o9 hS id hi ⟨true,(d:Int),0⟩ (by simp[Ke.aJ])
 have HMay:=aa hMay
 have hlt:=h.lt
 have HS:=aa hS
 have HA:=aa hA
 have HB0:Hid (∀W,Below (w.heap.size+1) (w.alloc (.cells #[.bool true,.int .u64 (d:Int),.int .u8 0] 130)) W→St W sb qb gq hb gh n most turn R L∧W.cell? ⟨w.heap.size,0,none⟩=(#[.bool true,.int .u64 (d:Int),.int .u8 0]:Array Value)[0]? ∧W.cell? ⟨w.heap.size,1,none⟩=(#[.bool true,.int .u64 (d:Int),.int .u8 0]:Array Value)[1]? ∧W.cell? ⟨w.heap.size,2,none⟩=(#[.bool true,.int .u64 (d:Int),.int .u8 0]:Array Value)[2]? ∧w.heap.size+1≤W.heap.size):=fun W hW=>by
  refine⟨hS.below (by rw[hz];exact hW),?_,?_,?_,by rw[←hz];exact hW.size⟩
  ·rw[hW.cell (p:=⟨w.heap.size,0,none⟩) (by simp),Ph.aA]
  ·rw[hW.cell (p:=⟨w.heap.size,1,none⟩) (by simp),Ph.aA]
  ·rw[hW.cell (p:=⟨w.heap.size,2,none⟩) (by simp),Ph.aA]
 have HRL:=aa hlen
 have HIR:=aa hr
 have HIL:=aa hl
 clear h hS hA hz hMay hlen hr hl
 go_enter Tryz.func167,Tryz.ntmps167
 go_wp2_with (first
  |(go_at_call 155;refine(HMay.out).mono ?_;rintro e w1 ⟨rfl,hb1⟩;have HB1:=aa (show Below (w.heap.size+1) _ w1 by rw[←HZ.out];exact hb1);obtain⟨hs1,k10,k11,k12,hz1⟩:=HB0.out _ HB1.out;have HS1:=aa hs1;have c10:=hs1.c0;have c11:=hs1.c1;clear hb1 hs1)
  |(go_at_call 156;refine(jY HS1.out id hi HIR.out HIL.out).mono ?_;rintro e w2 ⟨rfl,hb2⟩;have HB2:=aa (HB1.out.trans (hb2.mono hz1));obtain⟨hs2,k20,k21,k22,hz2⟩:=HB0.out _ HB2.out;have HS2:=aa hs2;have c23:=hs2.c3;clear hb2 hs2))
 have HW3:=aa (show Below (w.heap.size+1) (w.alloc (.cells #[.bool true,.int .u64 (d:Int),.int .u8 0] 130)) ((w2.alloc (.cells #[.bool false,.int .u64 0,.int .u8 0] 130)).drew) from(HB2.out.alloc hz2 _).drew)
 have HS3:=aa (HB0.out _ HW3.out).1
 have c33:=HS3.out.c3
 have hll:R.length+L.length≤4096:=by have:=HRL.out;omega
 generalize hNN:R.length+L.length=NN at*
 have HLn:Hid (Calls Tryz.prog 137 #[.pointer (some ⟨sb,0,none⟩)] ((w2.alloc (.cells #[.bool false,.int .u64 0,.int .u8 0] 130)).drew) fun e w'=>e= .returned (.int .i64 (NN:Int))∧Below ((w2.alloc (.cells #[.bool false,.int .u64 0,.int .u8 0] 130)).drew).heap.size ((w2.alloc (.cells #[.bool false,.int .u64 0,.int .u8 0] 130)).drew) w'):=by
  have:=pN HS3.out (by rw[hNN];exact hll)
  rw[hNN] at this
  exact this
 have hne: ¬(NN:Int)=(most:Int):=by have:=HRL.out;omega
 have hne2: ¬NN=most:=by have:=HRL.out;omega
 clear k10 k11 k12 k20 k21 k22 c10 c11 c23 hNN
 go_region_held3 (fun w'=>w'.cell? ⟨sb,3,none⟩=some (.int .i64 (most:Int)))
  (first|exact c43|go_keep)
  ((go_at_call 137;refine(HLn.out).mono ?_;rintro e w3 ⟨rfl,hb3⟩;have HB3:=aa (HW3.out.trans (hb3.mono (by simp;omega)));obtain⟨hs3,k30,k31,k32,hz3⟩:=HB0.out _ HB3.out;have HS4:=aa hs3;have c43:=hs3.c3;clear hb3 hs3))
 have HPut:=aa (oL HS4.out ht id d hi HIL.out)
 go_wp2_with (go_at_call 158;refine(HPut.out).mono ?_;rintro e w4 ⟨rfl,hx,hf⟩;have HX:=aa hx;have HF:=aa hf;clear hx hf)
 go_ret
 exact⟨rfl,HX.out,(Fr.aC (((Below.refl w.heap.size w).alloc (Nat.le_refl _) _).trans (HB3.out.mono (by omega)))).trans HF.out⟩
end
section
variable {w w':World} {sb qb gq hb gh n most turn:Nat} {R R':List (Nat×Nat)} {L L':List Ph.Item}
theorem St.frame {S:Nat→Prop} (h:St w sb qb gq hb gh n most turn R L) (hf:Fr S w w') (n0: ¬S sb) (n1: ¬S qb) (n2: ¬S gq) (n3: ¬S hb) (n4: ¬S gh):St w' sb qb gq hb gh n most turn R L:=by
 have b1:=h.q.blocks
 have b2:=h.h.blocks
 exact⟨(hf.cell (a:=⟨sb,0,none⟩) h.lt n0).trans h.c0,(hf.cell (a:=⟨sb,1,none⟩) h.lt n0).trans h.c1,(hf.cell (a:=⟨sb,2,none⟩) h.lt n0).trans h.c2,(hf.cell (a:=⟨sb,3,none⟩) h.lt n0).trans h.c3,(hf.cell (a:=⟨sb,4,none⟩) h.lt n0).trans h.c4,fun o=>(hf.frozen (a:=⟨sb,o,none⟩) h.lt n0).trans (h.fz o),h.q.kept (hf.block qb b1.1 n1) (hf.block gq b1.2.1 n2),h.h.kept (hf.block hb b2.1 n3) (hf.block gh b2.2.1 n4),h.ne⟩
theorem qU {x:Ph.Item} (h:St w sb qb gq hb gh n most turn R (x::L)):
  Calls Tryz.prog 169 #[.agg #[.pointer (some ⟨qb,0,none⟩),.pointer (some ⟨hb,0,none⟩)]] w fun e w'=>e= .returned (.tuple #[.int .i64 (x.1:Int),.bool true])∧Below w.heap.size w w':=by
 have hA:=(Below.refl w.heap.size w).alloc (Nat.le_refl _) (.cells #[.pointer (some ⟨qb,0,none⟩),.pointer (some ⟨hb,0,none⟩)] 187)
 have HA:=aa hA
 have HM:=aa (Ph.BF (h.below hA).h)
 clear h hA
 go_enter Tryz.func169,Tryz.ntmps169
 go_wp2_with (go_at_call 192;refine(HM.out).mono ?_;rintro e w1 ⟨rfl,q,hw⟩;have HB:=aa (below_drewN HA.out q);subst hw)
 go_ret2
 exact⟨rfl,HB.out⟩
theorem pG (h:St w sb qb gq hb gh n most turn R L) (id d s:Nat) (hr: ∀it∈R,it.1≠id) (hl:(id,d,s)∈L):
  Calls Tryz.prog 157 #[.pointer (some ⟨sb,0,none⟩),.int .i64 (id:Int)] w fun e w'=>e= .returned (.int .i64 0)∧St w' sb qb gq hb gh n most turn R (Ph.out id L)∧Fr (fun k=>k=hb∨k=gh) w w':=by
 have hi:=h.h.qa.jj _ hl
 have c0:=h.c0
 have c1:=h.c1
 have HS:=aa h
 have HR:=aa (Bq.lj h.q hi hr)
 have HD:=aa (Ph.tC h.h id d s hl)
 clear h hr hl
 go_enter Tryz.func157,Tryz.ntmps157
 go_wp2_with (first
  |(go_at_call 186;refine(HR.out).mono ?_;rintro e w1 ⟨rfl,hw⟩;replace hw:=hw.symm;subst hw)
  |(go_at_call 187;refine(HD.out).mono ?_;rintro e w2 ⟨rfl,hq,ho⟩;have HX:=aa (HS.out.GO hq (Fr.Cr ho));have HF:=aa (Fr.Cr ho);clear hq ho))
 go_ret
 exact⟨rfl,HX.out,HF.out⟩
end
def Own (qb gq hb gh:Nat) (k:Nat):Prop:=(k=qb∨k=gq)∨k=hb∨k=gh
section
variable {w w':World} {sb qb gq hb gh n most turn:Nat} {R R':List (Nat×Nat)} {L L':List Ph.Item}
theorem sr {R1 R2:List (Nat×Nat)} {id lv:Nat} (h:St w sb qb gq hb gh n most turn (R1++(id,lv)::R2) L):
  Calls Tryz.prog 156 #[.agg #[.pointer (some ⟨qb,0,none⟩),.pointer (some ⟨hb,0,none⟩)],.int .i64 (id:Int)] w fun e w'=>e= .returned (.tuple #[.agg #[.bool false,.int .u64 0,.int .u8 (lv:Int)],.bool true])∧Below w.heap.size w w':=by
 have hA:=((Below.refl w.heap.size w).alloc (Nat.le_refl _) (.cells #[.pointer (some ⟨qb,0,none⟩),.pointer (some ⟨hb,0,none⟩)] 187)).alloc (by simp) (.cells #[.bool false,.int .u64 0,.int .u8 0] 130)
 have HA:=aa hA
 have HS:=aa (h.below hA)
 have hz:((w.alloc (.cells #[.pointer (some ⟨qb,0,none⟩),.pointer (some ⟨hb,0,none⟩)] 187)).alloc (.cells #[.bool false,.int .u64 0,.int .u8 0] 130)).heap.size=w.heap.size+2:=by simp
 have HZ:=aa hz
 have c1:((w.alloc (.cells #[.pointer (some ⟨qb,0,none⟩),.pointer (some ⟨hb,0,none⟩)] 187)).alloc (.cells #[.bool false,.int .u64 0,.int .u8 0] 130)).cell? ⟨w.heap.size,1,none⟩=some (.pointer (some ⟨hb,0,none⟩)):=by
  rw[World.cell?_alloc_lt _ _ _ (by simp),Ph.aA];rfl
 have CK:Hid (∀i,((w.alloc (.cells #[.pointer (some ⟨qb,0,none⟩),.pointer (some ⟨hb,0,none⟩)] 187)).alloc (.cells #[.bool false,.int .u64 0,.int .u8 0] 130)).cell? ⟨w.heap.size+1,i,none⟩=(#[.bool false,.int .u64 0,.int .u8 0]:Array Value)[i]?):=fun i=>by
  rw[show w.heap.size+1=(w.alloc (.cells #[.pointer (some ⟨qb,0,none⟩),.pointer (some ⟨hb,0,none⟩)] 187)).heap.size by simp];exact Ph.aA _ _ _ _
 have CF:Hid (∀i,((w.alloc (.cells #[.pointer (some ⟨qb,0,none⟩),.pointer (some ⟨hb,0,none⟩)] 187)).alloc (.cells #[.bool false,.int .u64 0,.int .u8 0] 130)).frozen? ⟨w.heap.size+1,i,none⟩=false):=fun i=>by
  rw[show w.heap.size+1=(w.alloc (.cells #[.pointer (some ⟨qb,0,none⟩),.pointer (some ⟨hb,0,none⟩)] 187)).heap.size by simp];exact Ph.aD _ _ _ _
 have C1:=aa c1
 clear h hA hz c1
 go_enter Tryz.func156,Tryz.ntmps156
 go_wp2_with (first
  |(go_at_call 184;refine(Bq.sq HS.out.q).mono ?_;rintro e w3 ⟨rfl,hb3⟩;have HB3:=aa hb3;clear hb3)
  |(go_at_call 47;refine(Ke.lY _ (lv:Int)).mono ?_;rintro e w2 ⟨rfl,hb2⟩;have HB2:=aa (HB3.out.trans (hb2.mono HB3.out.size));have s2:=HB2.out.size;have k0:=(HB2.out.cell (p:=⟨w.heap.size+1,0,none⟩) (by rw[HZ.out];simp)).trans (CK.out 0);have k1:=(HB2.out.cell (p:=⟨w.heap.size+1,1,none⟩) (by rw[HZ.out];simp)).trans (CK.out 1);have k2:=(HB2.out.cell (p:=⟨w.heap.size+1,2,none⟩) (by rw[HZ.out];simp)).trans (CK.out 2);have f0:=(World.frozen?_of_block (a:=⟨w.heap.size+1,0,none⟩) (HB2.out.block (w.heap.size+1) (by rw[HZ.out];simp))).trans (CF.out 0);have f1:=(World.frozen?_of_block (a:=⟨w.heap.size+1,1,none⟩) (HB2.out.block (w.heap.size+1) (by rw[HZ.out];simp))).trans (CF.out 1);have f2:=(World.frozen?_of_block (a:=⟨w.heap.size+1,2,none⟩) (HB2.out.block (w.heap.size+1) (by rw[HZ.out];simp))).trans (CF.out 2);have hW:=aa ((HA.out.trans (HB2.out.mono (by rw[HZ.out];omega))));clear hb2))
 refine bodyPost_ret (v:= .tuple #[.agg #[.bool false,.int .u64 0,.int .u8 (lv:Int)],.bool true]) ?_ rfl ?_
 ·simp[results,Tryz.f156,go_sem,k0,k1,k2,Ke.aV]
 ·refine⟨rfl,?_⟩
  exact((hW.out.setCell (p:=⟨w.heap.size+1,0,none⟩) (by simp) _).setCell (p:=⟨w.heap.size+1,1,none⟩) (by simp) _).setCell (p:=⟨w.heap.size+1,2,none⟩) (by simp) _
theorem xT (h:St w sb qb gq hb gh n most turn R L) (id:Nat) (k:Ke.K) (hF: ∀W,St W sb qb gq hb gh n most turn R L→Calls Tryz.prog 169 #[.agg #[.pointer (some ⟨qb,0,none⟩),.pointer (some ⟨hb,0,none⟩)]] W fun e w'=>e= .returned (.tuple #[.int .i64 (id:Int),.bool true])∧Below W.heap.size W w') (hK: ∀W,St W sb qb gq hb gh n most turn R L→Calls Tryz.prog 156 #[.agg #[.pointer (some ⟨qb,0,none⟩),.pointer (some ⟨hb,0,none⟩)],.int .i64 (id:Int)] W fun e w'=>e= .returned (.tuple #[.agg #[.bool k.e,.int .u64 k.d,.int .u8 k.l],.bool true])∧Below W.heap.size W w'):
  Calls Tryz.prog 136 #[.pointer (some ⟨sb,0,none⟩)] w fun e w'=>e= .returned (.tuple #[.int .i64 (id:Int),.agg #[.bool k.e,.int .u64 k.d,.int .u8 k.l],.bool true])∧Below w.heap.size w w':=by
 have hA:=(Below.refl w.heap.size w).alloc (Nat.le_refl _) (.cells #[.bool false,.int .u64 0,.int .u8 0] 130)
 have hS:=h.below hA
 have hz:(w.alloc (.cells #[.bool false,.int .u64 0,.int .u8 0] 130)).heap.size=w.heap.size+1:=by simp
 have HZ:=aa hz
 have c0:=hS.c0
 have c1:=hS.c1
 have HS:=aa hS
 have HFC:=aa hF
 have HKC:=aa hK
 have HB0:Hid (∀W,Below (w.heap.size+1) (w.alloc (.cells #[.bool false,.int .u64 0,.int .u8 0] 130)) W→St W sb qb gq hb gh n most turn R L∧(∀i,W.cell? ⟨w.heap.size,i,none⟩=(#[.bool false,.int .u64 0,.int .u8 0]:Array Value)[i]?)∧(∀i,W.frozen? ⟨w.heap.size,i,none⟩=false)∧w.heap.size+1≤W.heap.size∧Below w.heap.size w W):=fun W hW=>by
  refine⟨hS.below (by rw[hz];exact hW),fun i=> ?_,fun i=> ?_,by rw[←hz];exact hW.size,hA.trans (hW.mono (by omega))⟩
  ·rw[hW.cell (p:=⟨w.heap.size,i,none⟩) (by simp),Ph.aA]
  ·rw[World.frozen?_of_block (a:=⟨w.heap.size,i,none⟩) (hW.block w.heap.size (by omega)),Ph.aD]
 clear h hF hK hS hA hz
 go_enter Tryz.func136,Tryz.ntmps136
 go_wp2_with (first
  |(go_at_call 169;refine(HFC.out _ HS.out).mono ?_;rintro e w1 ⟨rfl,hb1⟩;have HB1:=aa (show Below (w.heap.size+1) _ w1 by rw[←HZ.out];exact hb1);obtain⟨hs1,_,_,hz1,_⟩:=HB0.out _ HB1.out;have HS1:=aa hs1;have c10:=hs1.c0;have c11:=hs1.c1;clear hb1 hs1)
  |(go_at_call 156;refine(HKC.out _ HS1.out).mono ?_;rintro e w2 ⟨rfl,hb2⟩;have HB2:=aa (HB1.out.trans (hb2.mono hz1));have HB2s:=aa hb2;obtain⟨_,kc,fc,hz2,hB2⟩:=HB0.out _ HB2.out;have HBW:=aa hB2;have HB3:=aa (HB0.out _ (HB2.out.alloc hz2 (.cells #[.bool k.e,.int .u64 k.d,.int .u8 k.l] 130)));have k0:=HB3.out.2.1 0;have k1:=HB3.out.2.1 1;have k2:=HB3.out.2.1 2;have f0:=HB3.out.2.2.1 0;have f1:=HB3.out.2.2.1 1;have f2:=HB3.out.2.2.1 2;clear hb2 kc fc hB2))
 have hsz2:w.heap.size+1≤w2.heap.size:=hz2
 have y0: ¬w2.heap.size=w.heap.size:=by omega
 have y1: ¬w.heap.size=w2.heap.size:=by omega
 go_region_held3 (fun w'=>w'.cell? ⟨w2.heap.size,0,none⟩=some (.bool k.e)∧w'.cell? ⟨w2.heap.size,1,none⟩=some (.int .u64 k.d)∧w'.cell? ⟨w2.heap.size,2,none⟩=some (.int .u8 k.l))
  (first|go_keep)
  (fail)
 go_wp2
 refine bodyPost_ret (v:= .tuple #[.int .i64 (id:Int),.agg #[.bool k.e,.int .u64 k.d,.int .u8 k.l],.bool true]) ?_ rfl ?_
 ·simp[results,Tryz.f136,go_sem,k0,k1,k2]
 ·refine⟨rfl,?_⟩
  exact((((HBW.out.alloc (Nat.le_trans (Nat.le_succ _) hz2) _).setCell (p:=⟨w.heap.size,0,none⟩) (Nat.le_refl _) _).setCell (p:=⟨w.heap.size,1,none⟩) (Nat.le_refl _) _).setCell (p:=⟨w.heap.size,2,none⟩) (Nat.le_refl _) _).drew
theorem pw {id lv:Nat} {rest:List Nat} (h:St w sb qb gq hb gh n most turn R []) (hbst:Bq.Du R lv) (hq:Bq.QL R lv=(id+1)::rest):
  Calls Tryz.prog 169 #[.agg #[.pointer (some ⟨qb,0,none⟩),.pointer (some ⟨hb,0,none⟩)]] w fun e w'=>e= .returned (.tuple #[.int .i64 (id:Int),.bool true])∧Below w.heap.size w w':=by
 have hA:=(Below.refl w.heap.size w).alloc (Nat.le_refl _) (.cells #[.pointer (some ⟨qb,0,none⟩),.pointer (some ⟨hb,0,none⟩)] 187)
 have HA:=aa hA
 have HM:=aa (Ph.oj (h.below hA).h)
 have HT:=aa (Bq.zQ _ qb gq n R id lv rest (h.below hA).q hbst hq)
 clear h hA hbst hq
 go_enter Tryz.func169,Tryz.ntmps169
 go_wp2_with (first
  |(go_at_call 192;refine(HM.out).mono ?_;rintro e w1 ⟨rfl,hw⟩;subst hw)
  |(go_at_call 193;refine(HT.out).mono ?_;rintro e w2 ⟨rfl,hw⟩;have HB:=aa (HA.out.trans (hw.mono HA.out.size));clear hw))
 go_ret2
 exact⟨rfl,HB.out⟩
theorem qc (h:St w sb qb gq hb gh n most turn [] []):
  Calls Tryz.prog 169 #[.agg #[.pointer (some ⟨qb,0,none⟩),.pointer (some ⟨hb,0,none⟩)]] w fun e w'=>e= .returned (.tuple #[.int .i64 0,.bool false])∧Below w.heap.size w w':=by
 have hA:=(Below.refl w.heap.size w).alloc (Nat.le_refl _) (.cells #[.pointer (some ⟨qb,0,none⟩),.pointer (some ⟨hb,0,none⟩)] 187)
 have HA:=aa hA
 have HM:=aa (Ph.oj (h.below hA).h)
 have HT:=aa (Bq.zD _ qb gq n (h.below hA).q)
 clear h hA
 go_enter Tryz.func169,Tryz.ntmps169
 go_wp2_with (first
  |(go_at_call 192;refine(HM.out).mono ?_;rintro e w1 ⟨rfl,hw⟩;subst hw)
  |(go_at_call 193;refine(HT.out).mono ?_;rintro e w2 ⟨rfl,hw⟩;have HB:=aa (HA.out.trans (hw.mono HA.out.size));clear hw))
 go_ret2
 exact⟨rfl,HB.out⟩
theorem nK {R1 R2:List (Nat×Nat)} {id lv:Nat} (h:St w sb qb gq hb gh n most turn (R1++(id,lv)::R2) L):
  Calls Tryz.prog 157 #[.pointer (some ⟨sb,0,none⟩),.int .i64 (id:Int)] w fun e w'=>e= .returned (.int .i64 0)∧St w' sb qb gq hb gh n most turn (R1++R2) L∧Fr (fun k=>k=qb∨k=gq) w w':=by
 have c0:=h.c0
 have c1:=h.c1
 have HS:=aa h
 have HR:=aa (Bq.ri h.q)
 clear h
 go_enter Tryz.func157,Tryz.ntmps157
 go_wp2_with (first
  |(go_at_call 186;refine(HR.out).mono ?_;rintro e w2 ⟨rfl,hq,ho⟩;have HX:=aa (HS.out.GN hq (Fr.Be ho));have HF:=aa (Fr.Be ho);clear hq ho))
 go_ret
 exact⟨rfl,HX.out,HF.out⟩
theorem jH (h:St w sb qb gq hb gh n most turn R L) (id:Nat) (hi:id<n) (hr: ∀it∈R,it.1≠id) (hl: ∀it∈L,it.1≠id):
  Calls Tryz.prog 157 #[.pointer (some ⟨sb,0,none⟩),.int .i64 (id:Int)] w fun e w'=>e= .returned (.int .i64 6)∧w'=w:=by
 have c0:=h.c0
 have c1:=h.c1
 have HR:=aa (Bq.lj h.q hi hr)
 have HD:=aa (Ph.pP h.h id hi hl)
 clear h hr hl
 go_enter Tryz.func157,Tryz.ntmps157
 go_wp2_with (first
  |(go_at_call 186;refine(HR.out).mono ?_;rintro e w1 ⟨rfl,hw⟩;replace hw:=hw.symm;subst hw)
  |(go_at_call 187;refine(HD.out).mono ?_;rintro e w1 ⟨rfl,hw⟩;replace hw:=hw.symm;subst hw))
 go_ret
 exact⟨rfl,rfl⟩
theorem nP (h:St w sb qb gq hb gh n most turn R L) (id:Int) (hi:id<0∨(n:Int)≤id):
  Calls Tryz.prog 157 #[.pointer (some ⟨sb,0,none⟩),.int .i64 id] w fun e w'=>e= .returned (.int .i64 2)∧w'=w:=by
 have c0:=h.c0
 have c1:=h.c1
 have HR:=aa (Bq.pI h.q id hi)
 clear h hi
 go_enter Tryz.func157,Tryz.ntmps157
 go_wp2_with (first
  |(go_at_call 186;refine(HR.out).mono ?_;rintro e w1 ⟨rfl,hw⟩;replace hw:=hw.symm;subst hw))
 go_ret
 exact⟨rfl,rfl⟩
theorem vG (h:St w sb qb gq hb gh n most turn [] []):
  Calls Tryz.prog 136 #[.pointer (some ⟨sb,0,none⟩)] w fun e w'=>e= .returned (.tuple #[.int .i64 0,.agg #[.bool false,.int .u64 0,.int .u8 0],.bool false])∧Below w.heap.size w w':=by
 have hz:(w.alloc (.cells #[.bool false,.int .u64 0,.int .u8 0] 130)).heap.size=w.heap.size+1:=by simp
 have HZ:=aa hz
 have hS:=h.below ((Below.refl w.heap.size w).alloc (Nat.le_refl _) (.cells #[.bool false,.int .u64 0,.int .u8 0] 130))
 have c0:=hS.c0
 have c1:=hS.c1
 have HS:=aa hS
 clear hz h hS
 go_enter Tryz.func136,Tryz.ntmps136
 go_wp2_with (go_at_call 169;refine(qc HS.out).mono ?_;rintro e w1 ⟨rfl,hb1⟩;have HB:=aa (((Below.refl w.heap.size w).alloc (Nat.le_refl _) (.cells #[.bool false,.int .u64 0,.int .u8 0] 130)).trans (hb1.mono (by simp)));have hz1:w.heap.size+1≤w1.heap.size:=(by rw[←HZ.out];exact hb1.size);have k0:w1.cell? ⟨w.heap.size,0,none⟩=some (.bool false):=(hb1.cell (p:=⟨w.heap.size,0,none⟩) (by simp)).trans (Ph.aA _ _ _ _);have k1:w1.cell? ⟨w.heap.size,1,none⟩=some (.int .u64 0):=(hb1.cell (p:=⟨w.heap.size,1,none⟩) (by simp)).trans (Ph.aA _ _ _ _);have k2:w1.cell? ⟨w.heap.size,2,none⟩=some (.int .u8 0):=(hb1.cell (p:=⟨w.heap.size,2,none⟩) (by simp)).trans (Ph.aA _ _ _ _);have f0:w1.frozen? ⟨w.heap.size,0,none⟩=false:=(World.frozen?_of_block (a:=⟨w.heap.size,0,none⟩) (hb1.block w.heap.size (by simp))).trans (Ph.aD _ _ _ _);have f1:w1.frozen? ⟨w.heap.size,1,none⟩=false:=(World.frozen?_of_block (a:=⟨w.heap.size,1,none⟩) (hb1.block w.heap.size (by simp))).trans (Ph.aD _ _ _ _);have f2:w1.frozen? ⟨w.heap.size,2,none⟩=false:=(World.frozen?_of_block (a:=⟨w.heap.size,2,none⟩) (hb1.block w.heap.size (by simp))).trans (Ph.aD _ _ _ _);clear hb1)
 trace_state
 refine bodyPost_ret (v:= .tuple #[.int .i64 0,.agg #[.bool false,.int .u64 0,.int .u8 0],.bool false]) ?_ rfl ?_
 ·simp[results,Tryz.f136,go_sem,k0,k1,k2]
 ·refine⟨rfl,?_⟩
  first
   |exact HB.out
   |exact((HB.out.setCell (p:=⟨w.heap.size,0,none⟩) (Nat.le_refl _) _).setCell (p:=⟨w.heap.size,1,none⟩) (Nat.le_refl _) _).setCell (p:=⟨w.heap.size,2,none⟩) (Nat.le_refl _) _
   |exact(((HB.out.setCell (p:=⟨w.heap.size,0,none⟩) (Nat.le_refl _) _).setCell (p:=⟨w.heap.size,1,none⟩) (Nat.le_refl _) _).setCell (p:=⟨w.heap.size,2,none⟩) (Nat.le_refl _) _).drew
end
end Go.Proofs.YtdbailcdlngemaaGreatDoor
namespace Go.Proofs.YtdbailcdlngemaaGreatDoor
def kN (R:List (Nat×Nat)) (lv:Nat):List En:=(R.filter (fun it=>it.2==lv)).map (fun it=>(it.1,Ke.aV it.2))
def gA (R:List (Nat×Nat)):Nat→List En
 |0=>[]
 |k+1=>kN R k++gA R k
def dl (L:List Ph.Item):List En:=L.map (fun x=>(x.1,Ke.cf x.2.1))
def all (R:List (Nat×Nat)) (L:List Ph.Item):List En:=dl L++gA R 256
theorem jK {R:List (Nat×Nat)} {lv:Nat} {y:En}:y∈kN R lv↔(y.1,lv)∈R∧y.2=Ke.aV lv:=by
 unfold kN
 simp only[List.mem_map,List.mem_filter,beq_iff_eq]
 constructor
 ·rintro⟨it,⟨h1,rfl⟩,rfl⟩;exact⟨h1,rfl⟩
 ·rintro⟨h1,h2⟩
  exact⟨(y.1,lv),⟨h1,rfl⟩,by rw[←h2]⟩
theorem iG {R:List (Nat×Nat)} {y:En}: ∀{k:Nat},y∈gA R k↔ ∃lv,lv<k∧(y.1,lv)∈R∧y.2=Ke.aV lv
 |0=>by simp[gA]
 |k+1=>by
  rw[gA,List.mem_append,jK,iG]
  constructor
  ·rintro(⟨a,b⟩|⟨lv,a,b⟩)
   ·exact⟨k,by omega,a,b⟩
   ·exact⟨lv,by omega,b⟩
  ·rintro⟨lv,a,b⟩
   rcases Nat.lt_or_ge lv k with q|q
   ·exact .inr ⟨lv,q,b⟩
   ·obtain rfl:lv=k:=by omega
    exact .inl b
theorem tw {L:List Ph.Item} {y:En}:y∈dl L↔ ∃d s,(y.1,d,s)∈L∧y.2=Ke.cf d:=by
 unfold dl
 simp only[List.mem_map]
 constructor
 ·rintro⟨it,h,rfl⟩;exact⟨it.2.1,it.2.2,h,rfl⟩
 ·rintro⟨d,s,h,e⟩;exact⟨_,h,by rw[←e]⟩
theorem ix {R:List (Nat×Nat)} {L:List Ph.Item} {y:En}:y∈all R L↔(∃d s,(y.1,d,s)∈L∧y.2=Ke.cf d)∨ ∃lv,lv<256∧(y.1,lv)∈R∧y.2=Ke.aV lv:=by
 rw[all,List.mem_append,tw,iG]
theorem Cv (l d:Int):Ke.up (Ke.aV l) (Ke.cf d)=false:=by simp[Ke.up,Ke.aV,Ke.cf]
theorem E1 (l d:Int):Ke.up (Ke.cf d) (Ke.aV l)=true:=by simp[Ke.up,Ke.aV,Ke.cf]
theorem uz (l k:Int):Ke.up (Ke.aV l) (Ke.aV k)=decide (k<l):=by unfold Ke.up;rfl
theorem CQ (l k:Int):Ke.up (Ke.cf l) (Ke.cf k)=decide (l<k):=by unfold Ke.up;rfl
theorem uh (R:List (Nat×Nat)) (id lv k:Nat):kN (R++[(id,lv)]) k=if lv=k then kN R k++[(id,Ke.aV lv)] else kN R k:=by
 unfold kN
 rw[List.filter_append,List.map_append]
 by_cases h:lv=k
 ·simp[h]
 ·simp[h]
theorem uw (R:List (Nat×Nat)) (id lv:Nat): ∀k,k≤lv→gA (R++[(id,lv)]) k=gA R k
 |0,_=>rfl
 |k+1,h=>by rw[gA,gA,uh,if_neg (by omega),uw R id lv k (by omega)]
theorem ux (R:List (Nat×Nat)) (id lv:Nat): ∀k,lv<k→put (id,Ke.aV lv) (gA R k)=gA (R++[(id,lv)]) k
 |0,h=>by omega
 |k+1,h=>by
  rw[gA,gA,uh]
  have h1: ∀y∈kN R k,Ke.up (Ke.aV lv) y.2=false:=fun y hy=>by
   rw[(jK.1 hy).2,uz]
   simp
   omega
  rw[nD _ _ _ h1]
  by_cases e:lv=k
  ·subst e
   rw[if_pos rfl,uw R id lv lv (Nat.le_refl _),qX _ _ (fun y hy=> ?_)]
   ·simp
   ·obtain⟨j,hj,_,e⟩:=iG.1 hy
    rw[e,uz]
    simp
    omega
  ·rw[if_neg e,ux R id lv k (by omega)]
theorem om (R:List (Nat×Nat)) (L:List Ph.Item) (id lv:Nat) (h:lv<256):put (id,Ke.aV lv) (all R L)=all (R++[(id,lv)]) L:=by
 unfold all
 rw[nD _ _ _ (fun y hy=> ?_),ux R id lv 256 h]
 obtain⟨d,s,_,e⟩:=tw.1 hy
 rw[e]
 exact Cv _ _
theorem yz (id d s:Nat) (B:List En) (hB: ∀y∈B,Ke.up (Ke.cf d) y.2=true): ∀(L:List Ph.Item),(∀y∈L,y.2.2<s)→put (id,Ke.cf d) (dl L++B)=dl (Ph.ins (id,d,s) L)++B
 |[],_=>by
  show put (id,Ke.cf d) B=(id,Ke.cf d)::B
  exact qX _ _ hB
 |x::L,h=>by
  have hx:=h x (by simp)
  show put (id,Ke.cf d) ((x.1,Ke.cf x.2.1)::(dl L++B))=_
  simp only[put,Ph.ins]
  rw[CQ]
  by_cases c:d<x.2.1
  ·have c':Ph.ah (id,d,s) x:= .inl c
   rw[if_pos c',if_pos (by simpa using c)]
   rfl
  ·have c': ¬Ph.ah (id,d,s) x:=by
    unfold Ph.ah
    simp only
    omega
   rw[if_neg c',if_neg (by simpa using c),yz id d s B hB L (fun y hy=>h y (by simp[hy]))]
   rfl
theorem qt (R:List (Nat×Nat)) (L:List Ph.Item) (id d s:Nat) (h: ∀y∈L,y.2.2<s):put (id,Ke.cf d) (all R L)=all R (Ph.ins (id,d,s) L):=by
 unfold all
 refine yz id d s _ (fun y hy=> ?_) L h
 obtain⟨j,hj,_,e⟩:=iG.1 hy
 rw[e]
 exact E1 _ _
theorem AW (R:List (Nat×Nat)) (id lv:Nat):cut id (kN R lv)=kN (R.filter (fun it=>it.1 !=id)) lv:=by
 unfold cut kN
 rw[List.filter_map,List.filter_filter,List.filter_filter]
 congr 1
 apply List.filter_congr
 intro a _
 exact Bool.and_comm _ _
theorem tQ (R:List (Nat×Nat)) (id:Nat): ∀k,cut id (gA R k)=gA (R.filter (fun it=>it.1 !=id)) k
 |0=>rfl
 |k+1=>by
  rw[gA,gA,←tQ R id k,←AW]
  exact List.filter_append ..
theorem uN (R:List (Nat×Nat)) (L:List Ph.Item) (id:Nat):cut id (all R L)=all (R.filter (fun it=>it.1 !=id)) (Ph.out id L):=by
 unfold all
 rw[←tQ]
 have e:dl (Ph.out id L)=cut id (dl L):=by
  unfold dl cut Ph.out
  rw[List.filter_map]
  rfl
 rw[e]
 exact List.filter_append ..
theorem gQ {R:List (Nat×Nat)} {id:Nat} (h: ∀it∈R,it.1≠id):R.filter (fun it=>it.1 !=id)=R:=by
 rw[List.filter_eq_self]
 intro a ha
 simpa using h a ha
theorem pO {R1 R2:List (Nat×Nat)} {id lv:Nat} (h:((R1++(id,lv)::R2).map (·.1)).Nodup):(R1++(id,lv)::R2).filter (fun it=>it.1 !=id)=R1++R2:=by
 rw[List.map_append,List.map_cons,List.nodup_append] at h
 obtain⟨_,h2,h3⟩:=h
 rw[List.nodup_cons] at h2
 rw[List.filter_append,List.filter_cons_of_neg (by simp),gQ,gQ]
 ·intro it hit e
  exact h2.1 (List.mem_map.2 ⟨it,hit,e⟩)
 ·intro it hit e
  exact h3 it.1 (List.mem_map.2 ⟨it,hit,rfl⟩) id (by simp) e
theorem oM (R:List (Nat×Nat)) {y:En} {M:List En}: ∀k,gA R k=y::M→ ∃lv,lv<k∧(∃rest,kN R lv=y::rest)∧ ∀j,lv<j→j<k→kN R j=[]
 |0,h=>by simp[gA] at h
 |k+1,h=>by
  rw[gA] at h
  cases hl:kN R k with
  |nil=>
   rw[hl] at h
   obtain⟨lv,h1,h2,h3⟩:=oM R k h
   refine⟨lv,by omega,h2,fun j a b=> ?_⟩
   rcases Nat.lt_or_ge j k with q|q
   ·exact h3 j a q
   ·obtain rfl:j=k:=by omega
    exact hl
  |cons z rest=>
   rw[hl] at h
   injection h with h1 h2
   exact⟨k,by omega,⟨rest,by rw[hl,h1]⟩,fun j a b=>by omega⟩
open Go.RowKit
attribute [local go_sem ↓] Go.wp_at_zero Go.wp_at_succ
structure fQ (n most turn:Nat) (R:List (Nat×Nat)) (L:List Ph.Item) (M:List En):Prop where
 eq:all R L=M
 nd:(M.map (·.1)).Nodup
 len:R.length+L.length=M.length
 lt: ∀y∈L,y.2.2<turn
 fits:M.length≤most
 mn:most≤n
 rl: ∀it∈R,it.2<256
def cT (w:World) (sb qb gq hb gh n most turn:Nat) (M:List En):Prop:= ∃R L,St w sb qb gq hb gh n most turn R L∧fQ n most turn R L M
def gx (sb qb gq hb gh:Nat) (k:Nat):Prop:=k=sb∨Own qb gq hb gh k
section
variable {w w':World} {sb qb gq hb gh n most turn:Nat} {R R':List (Nat×Nat)} {L L':List Ph.Item} {M:List En}
theorem cT.below (h:cT w sb qb gq hb gh n most turn M) (hw:Below w.heap.size w w'):cT w' sb qb gq hb gh n most turn M:=by
 obtain⟨R,L,h1,h2⟩:=h
 exact⟨R,L,h1.below hw,h2⟩
theorem cT.frame {S:Nat→Prop} (h:cT w sb qb gq hb gh n most turn M) (hf:Fr S w w') (hn: ∀k,gx sb qb gq hb gh k→ ¬S k):cT w' sb qb gq hb gh n most turn M:=by
 obtain⟨R,L,h1,h2⟩:=h
 exact⟨R,L,h1.frame hf (hn _ (.inl rfl)) (hn _ (.inr (.inl (.inl rfl)))) (hn _ (.inr (.inl (.inr rfl)))) (hn _ (.inr (.inr (.inl rfl)))) (hn _ (.inr (.inr (.inr rfl)))),h2⟩
theorem cT.blocks (h:cT w sb qb gq hb gh n most turn M): ∀k,gx sb qb gq hb gh k→k<w.heap.size:=by
 obtain⟨R,L,h1,_⟩:=h
 have a:=h1.lt
 have b:=h1.q.blocks
 have c:=h1.h.blocks
 intro k hk
 unfold gx Own at hk
 omega
theorem cT.Ch (h:cT w sb qb gq hb gh n most turn M):n≤1024:=by
 obtain⟨R,L,h1,_⟩:=h
 exact h1.h.Gi
theorem fQ.Fo (h:fQ n most turn R L M) {id lv:Nat} (hm:(id,lv)∈R):(id,Ke.aV lv)∈M:=by
 rw[←h.eq]
 exact ix.2 (.inr ⟨lv,h.rl _ hm,hm,rfl⟩)
theorem fQ.Fm (h:fQ n most turn R L M) {x:Ph.Item} (hm:x∈L):(x.1,Ke.cf x.2.1)∈M:=by
 rw[←h.eq]
 exact ix.2 (.inl ⟨x.2.1,x.2.2,hm,rfl⟩)
theorem fQ.oe (h:fQ n most turn R L M) {id:Nat} (hm: ∀y∈M,y.1≠id): ∀it∈R,it.1≠id:=fun it hit e=>hm _ (h.Fo (id:=it.1) (lv:=it.2) hit) e
theorem fQ.oh (h:fQ n most turn R L M) {id:Nat} (hm: ∀y∈M,y.1≠id): ∀it∈L,it.1≠id:=fun it hit e=>hm _ (h.Fm hit) e
theorem fQ.apart (h:fQ n most turn R L M) {x:Ph.Item} (hm:x∈L): ∀it∈R,it.1≠x.1:=fun it hit e=>by
 have:=uB h.nd (h.Fo (id:=it.1) (lv:=it.2) hit) (h.Fm hm) e
 have:=congrArg (fun y=>y.2.e) this
 simp[Ke.aV,Ke.cf] at this
theorem uC: ∀k,gA [] k=[]
 |0=>rfl
 |k+1=>by rw[gA,uC k];rfl
def kz (o:Option Ke.K):Ke.K:=o.getD ⟨false,0,0⟩
theorem uO (hS:St w sb qb gq hb gh n most turn R L) (hI:fQ n most turn R L M) (id:Nat) (hi:id<n):
  Calls Tryz.prog 156 #[.agg #[.pointer (some ⟨qb,0,none⟩),.pointer (some ⟨hb,0,none⟩)],.int .i64 (id:Int)] w fun e w'=>e= .returned (.tuple #[.agg #[.bool (kz (keyOf M id)).e,.int .u64 (kz (keyOf M id)).d,.int .u8 (kz (keyOf M id)).l],.bool (keyOf M id).isSome])∧Below w.heap.size w w':=by
 cases hk:keyOf M id with
 |none=>
  have hm:=bX.1 hk
  exact jY hS id hi (hI.oe hm) (hI.oh hm)
 |some k=>
  have hm:=(dM hI.nd).1 hk
  rw[←hI.eq] at hm
  rcases ix.1 hm with ⟨d,s,h1,h2⟩|⟨lv,_,h1,h2⟩
  ·have:=vJ hS id hi (hI.apart h1) d s h1
   simp only at h2
   rw[h2]
   exact this
  ·obtain⟨R1,R2,rfl⟩:=List.append_of_mem h1
   simp only at h2
   rw[h2]
   exact sr hS
theorem xO (hS:St w sb qb gq hb gh n most turn R L) (hI:fQ n most turn R L M) {y:En} {M':List En} (he:M=y::M'):
  Calls Tryz.prog 169 #[.agg #[.pointer (some ⟨qb,0,none⟩),.pointer (some ⟨hb,0,none⟩)]] w fun e w'=>e= .returned (.tuple #[.int .i64 (y.1:Int),.bool true])∧Below w.heap.size w w':=by
 have heq:=hI.eq
 rw[he] at heq
 cases L with
 |cons x L=>
  unfold all at heq
  have:y=(x.1,Ke.cf x.2.1):=by
   simp only[dl,List.map_cons,List.cons_append] at heq
   injection heq with h1 _
   exact h1.symm
  rw[this]
  exact qU hS
 |nil=>
  have h1:gA R 256=y::M':=heq
  obtain⟨lv,h2,⟨rest,h3⟩,h4⟩:=oM R 256 h1
  have e1:Bq.QL R lv=(kN R lv).map (fun y=>y.1+1):=by
   unfold Bq.QL kN
   rw[List.map_map]
   rfl
  have e2: ∀j,kN R j=[]→Bq.QL R j=[]:=fun j hj=>by
   have:Bq.QL R j=(kN R j).map (fun y=>y.1+1):=by
    unfold Bq.QL kN
    rw[List.map_map]
    rfl
   rw[this,hj]
   rfl
  rw[h3] at e1
  exact pw hS ⟨h2,by rw[e1];simp,fun j a b=>e2 j (h4 j b a)⟩ e1
theorem yn {y:En} {M':List En} (h:((y::M').map (·.1)).Nodup):keyOf (y::M') y.1=some y.2:=(dM h).2 (by simp)
theorem fQ.jj (hS:St w sb qb gq hb gh n most turn R L) (hI:fQ n most turn R L M): ∀y∈M,y.1<n:=fun y hy=>by
 rw[←hI.eq] at hy
 rcases ix.1 hy with ⟨d,s,h1,_⟩|⟨lv,_,h1,_⟩
 ·exact hS.h.qa.jj _ h1
 ·exact(hS.q.jj _ h1).1
theorem Ej (hS:St w sb qb gq hb gh n most turn R L) (hI:fQ n most turn R L M) {y:En} {M':List En} (he:M=y::M'):
  Calls Tryz.prog 136 #[.pointer (some ⟨sb,0,none⟩)] w fun e w'=>e= .returned (.tuple #[.int .i64 (y.1:Int),.agg #[.bool y.2.e,.int .u64 y.2.d,.int .u8 y.2.l],.bool true])∧Below w.heap.size w w':=by
 refine xT hS y.1 y.2 (fun W hW=>xO hW hI he) (fun W hW=> ?_)
 have:=uO hW hI y.1 (fQ.jj hW hI y (by rw[he];simp))
 have e:keyOf M y.1=some y.2:=by rw[he];exact yn (by rw[←he];exact hI.nd)
 rw[e] at this
 exact this
theorem Er (hS:St w sb qb gq hb gh n most turn R L) (hI:fQ n most turn R L M) {id:Nat} {k:Ke.K} (hk:(id,k)∈M):
  ∃R' L',fQ n most turn R' L' (cut id M)∧ ∀W,St W sb qb gq hb gh n most turn R L→Calls Tryz.prog 157 #[.pointer (some ⟨sb,0,none⟩),.int .i64 (id:Int)] W fun e w'=>e= .returned (.int .i64 0)∧St w' sb qb gq hb gh n most turn R' L'∧Fr (Own qb gq hb gh) W w':=by
 have hlc:=jE hI.nd hk
 have hlen:=hI.len
 have hmo:=hI.fits
 have hm:=hk
 rw[←hI.eq] at hm
 rcases ix.1 hm with ⟨d,s,h1,h2⟩|⟨lv,_,h1,h2⟩
 ·have hap:=hI.apart h1
  have hlo:=Ph.tE hS.h.qa h1
  refine⟨R,Ph.out id L,⟨?_,zt hI.nd,by simp only at hlo;omega,fun y hy=>hI.lt y (Ph.o7.1 hy).1,by omega,hI.mn,hI.rl⟩,fun W hW=> ?_⟩
  ·rw[←hI.eq,uN,gQ hap]
  ·refine(pG hW id d s hap h1).mono ?_
   rintro e w' ⟨rfl,a,b⟩
   exact⟨rfl,a,b.wide (fun k _ q=> .inr q)⟩
 ·obtain⟨R1,R2,rfl⟩:=List.append_of_mem h1
  have hmiss: ∀y∈L,y.1≠id:=fun y hy e=>hI.apart hy (id,lv) (by simp) e.symm
  refine⟨R1++R2,L,⟨?_,zt hI.nd,?_,hI.lt,by omega,hI.mn,fun it hit=>hI.rl it ?_⟩,fun W hW=> ?_⟩
  ·rw[←hI.eq,uN,pO hS.q.ids,Ph.yT hmiss]
  ·simp at hlen⊢
   omega
  ·rcases List.mem_append.1 hit with q|q
   ·exact List.mem_append_left _ q
   ·exact List.mem_append_right _ (List.mem_cons_of_mem _ q)
  ·refine(nK hW).mono ?_
   rintro e w' ⟨rfl,a,b⟩
   exact⟨rfl,a,b.wide (fun k _ q=> .inl q)⟩
theorem nX (h:cT w sb qb gq hb gh n most turn M) {id:Nat} {k:Ke.K} (hk:(id,k)∈M):
  Calls Tryz.prog 157 #[.pointer (some ⟨sb,0,none⟩),.int .i64 (id:Int)] w fun e w'=>e= .returned (.int .i64 0)∧cT w' sb qb gq hb gh n most turn (cut id M)∧Fr (Own qb gq hb gh) w w':=by
 obtain⟨R,L,hS,hI⟩:=h
 obtain⟨R',L',h1,h2⟩:=Er hS hI hk
 refine(h2 _ hS).mono ?_
 rintro e w' ⟨rfl,a,b⟩
 exact⟨rfl,⟨R',L',a,h1⟩,b⟩
theorem cT.wF (h:cT w sb qb gq hb gh n most turn []):St w sb qb gq hb gh n most turn [] []:=by
 obtain⟨R,L,hS,hI⟩:=h
 have:=hI.len
 simp at this
 obtain⟨rfl,rfl⟩:=this
 exact hS
theorem DS {y:En} (h:cT w sb qb gq hb gh n most turn (y::M)):
  Calls Tryz.prog 136 #[.pointer (some ⟨sb,0,none⟩)] w fun e w'=>e= .returned (.tuple #[.int .i64 (y.1:Int),.agg #[.bool y.2.e,.int .u64 y.2.d,.int .u8 y.2.l],.bool true])∧Below w.heap.size w w':=by
 obtain⟨R,L,hS,hI⟩:=h
 exact Ej hS hI rfl
theorem kI {k:Ke.K} (hr:Ke.aJ k=true) (hk:k.ok):(∃d:Nat,k=Ke.cf d)∨ ∃lv:Nat,lv<256∧k=Ke.aV lv:=by
 obtain⟨e,d,l⟩:=k
 obtain⟨⟨h1,h2⟩,h3,h4⟩:=hk
 simp only at h1 h2 h3 h4
 cases e
 ·right
  simp[Ke.aJ] at hr
  refine⟨l.toNat,by omega,?_⟩
  simp[Ke.aV,hr]
  omega
 ·left
  simp[Ke.aJ] at hr
  refine⟨d.toNat,?_⟩
  simp[Ke.cf,hr]
  omega
theorem uq (h:cT w sb qb gq hb gh n most turn M) (ht:turn≤1000000000) (id:Nat) (k:Ke.K) (hi:id<n) (hr:Ke.aJ k=true) (hk:k.ok) (hno:keyOf M id=none) (hlen:M.length<most):
  Calls Tryz.prog 167 #[.pointer (some ⟨sb,0,none⟩),.int .i64 (id:Int),.agg #[.bool k.e,.int .u64 k.d,.int .u8 k.l]] w fun e w'=>e= .returned (.int .i64 0)∧cT w' sb qb gq hb gh n most (turn+1) (put (id,k) M)∧Fr (gx sb qb gq hb gh) w w':=by
 have hn:=h.Ch
 obtain⟨R,L,hS,hI⟩:=h
 have hm:=bX.1 hno
 have hl:=hI.len
 have hmn:=hI.mn
 have e1:=jR (x:=(id,k)) (M:=M)
 rcases kI hr hk with ⟨d,rfl⟩|⟨lv,hlv,rfl⟩
 ·refine(wx hS ht id d hi (hI.oe hm) (hI.oh hm) (by omega) (by omega)).mono ?_
  rintro e w' ⟨rfl,a,b⟩
  refine⟨rfl,⟨R,_,a,?_,mR hI.nd hm,by rw[Ph.ly];omega,fun y hy=> ?_,by omega,hI.mn,hI.rl⟩,b.wide (fun k _ q=> ?_)⟩
  ·rw[←hI.eq,qt R L id d turn hI.lt]
  ·rcases Ph.gi.1 hy with rfl|q
   ·exact Nat.lt_succ_self _
   ·exact Nat.lt_succ_of_lt (hI.lt y q)
  ·unfold gx Own;omega
 ·refine(sk hS ht id lv hi hlv (hI.oe hm) (hI.oh hm) (by omega) (by omega)).mono ?_
  rintro e w' ⟨rfl,a,b⟩
  refine⟨rfl,⟨_,L,a,?_,mR hI.nd hm,by simp;omega,fun y hy=>Nat.lt_succ_of_lt (hI.lt y hy),by omega,hI.mn,fun it hit=> ?_⟩,b.wide (fun k _ q=> ?_)⟩
  ·rw[←hI.eq,om R L id lv hlv]
  ·rcases List.mem_append.1 hit with q|q
   ·exact hI.rl it q
   ·simp at q;rw[q];exact hlv
  ·unfold gx Own;omega
theorem tM (n most:Nat) (w:World) (h1:1≤n) (h2:n≤1024) (h3:1≤most) (h4:most≤n):
  Calls Tryz.prog 48 #[.int .i64 n,.int .i64 most] w fun e w'=> ∃sb qb gq hb gh,e= .returned (.pointer (some ⟨sb,0,none⟩))∧(∀k,gx sb qb gq hb gh k→w.heap.size≤k)∧cT w' sb qb gq hb gh n most 0 []∧Below w.heap.size w w':=by
 refine(BU n most w h1 h2 h3 h4).mono ?_
 rintro e w' ⟨sb,qb,gq,hb,gh,rfl,a,b,c,d,f,hS,hB⟩
 refine⟨sb,qb,gq,hb,gh,rfl,fun k hk=> ?_,⟨[],[],hS,by simp[all,dl];exact uC 256,by simp,rfl,by simp,by simp,h4,by simp⟩,hB⟩
 unfold gx Own at hk
 omega
end
section
variable {w:World} {sb qb gq hb gh n most turn:Nat} {R:List (Nat×Nat)} {L:List Ph.Item} {M:List En}
theorem gD (h:cT w sb qb gq hb gh n most turn M): ∃R L,St w sb qb gq hb gh n most turn R L∧fQ n most turn R L M:=h
theorem qH (h:cT w sb qb gq hb gh n most turn M) (id:Nat) (hi:id<n):
  Calls Tryz.prog 156 #[.agg #[.pointer (some ⟨qb,0,none⟩),.pointer (some ⟨hb,0,none⟩)],.int .i64 (id:Int)] w fun e w'=>e= .returned (.tuple #[.agg #[.bool (kz (keyOf M id)).e,.int .u64 (kz (keyOf M id)).d,.int .u8 (kz (keyOf M id)).l],.bool (keyOf M id).isSome])∧Below w.heap.size w w':=by
 obtain⟨R,L,hS,hI⟩:=h
 exact uO hS hI id hi
theorem CH (h:cT w sb qb gq hb gh n most turn M):
  Calls Tryz.prog 137 #[.pointer (some ⟨sb,0,none⟩)] w fun e w'=>e= .returned (.int .i64 (M.length:Int))∧Below w.heap.size w w':=by
 have hn:=h.Ch
 obtain⟨R,L,hS,hI⟩:=h
 have h1:=hI.len
 have h2:=hI.fits
 have h3:=hI.mn
 have:=pN hS (by omega)
 rw[h1] at this
 exact this
theorem tS (h:cT w sb qb gq hb gh n most turn M) (id:Int) (k:Ke.K) (hb:id<0∨(n:Int)≤id∨Ke.aJ k=false):
  Calls Tryz.prog 155 #[.pointer (some ⟨sb,0,none⟩),.int .i64 id,.agg #[.bool k.e,.int .u64 k.d,.int .u8 k.l]] w fun e w'=>e= .returned (.int .i64 2)∧Below w.heap.size w w':=by
 obtain⟨R,L,hS,_⟩:=h
 have c2:=(hS.below ((Below.refl _ _).alloc (Nat.le_refl _) (.cells #[.bool k.e,.int .u64 k.d,.int .u8 k.l] 130))).c2
 have HA:Hid (Below w.heap.size w (w.alloc (.cells #[.bool k.e,.int .u64 k.d,.int .u8 k.l] 130))):=(Below.refl _ _).alloc (Nat.le_refl _) _
 have hlt:=hS.lt
 have y0: ¬sb=w.heap.size:=by omega
 have c20:=hS.c2
 have HR:=aa (fun W=>Ke.cY W k)
 clear hS
 have hcs:id<0∨(¬id<0∧(n:Int)≤id)∨(¬id<0∧ ¬(n:Int)≤id∧Ke.aJ k=false):=by
  by_cases q1:id<0
  ·exact .inl q1
  ·by_cases q2:(n:Int)≤id
   ·exact .inr (.inl ⟨q1,q2⟩)
   ·rcases hb with q|q|q
    ·exact absurd q q1
    ·exact absurd q q2
    ·exact .inr (.inr ⟨q1,q2,q⟩)
 clear hb
 rcases hcs with h1|⟨h1,h2⟩|⟨h1,h2,h3⟩
 ·go_enter Tryz.func155,Tryz.ntmps155
  go_wp2
  go_ret
  exact⟨rfl,HA.out⟩
 ·go_enter Tryz.func155,Tryz.ntmps155
  go_wp2
  go_ret
  exact⟨rfl,HA.out⟩
 ·rw[h3] at HR
  go_enter Tryz.func155,Tryz.ntmps155
  go_wp2_with (go_at_call 112;refine(HR.out _).mono ?_;rintro e w1 ⟨rfl,hb1⟩;have HB1:=aa (HA.out.trans (hb1.mono HA.out.size));clear hb1)
  go_ret
  exact⟨rfl,HB1.out⟩
theorem jO (h:cT w sb qb gq hb gh n most turn M) (k:Ke.K): ∀W,Below (w.heap.size+1) (w.alloc (.cells #[.bool k.e,.int .u64 k.d,.int .u8 k.l] 130)) W→cT W sb qb gq hb gh n most turn M∧(W.cell? ⟨w.heap.size,0,none⟩=some (.bool k.e)∧W.cell? ⟨w.heap.size,1,none⟩=some (.int .u64 k.d)∧W.cell? ⟨w.heap.size,2,none⟩=some (.int .u8 k.l))∧(∀o,W.frozen? ⟨w.heap.size,o,none⟩=false)∧w.heap.size+1≤W.heap.size∧Below w.heap.size w W:=fun W hW=>by
 have hA:=(Below.refl w.heap.size w).alloc (Nat.le_refl _) (.cells #[.bool k.e,.int .u64 k.d,.int .u8 k.l] 130)
 have hz:(w.alloc (.cells #[.bool k.e,.int .u64 k.d,.int .u8 k.l] 130)).heap.size=w.heap.size+1:=by simp
 refine⟨(h.below hA).below (by rw[hz];exact hW),⟨?_,?_,?_⟩,fun o=> ?_,by rw[←hz];exact hW.size,hA.trans (hW.mono (by omega))⟩
 ·rw[hW.cell (p:=⟨w.heap.size,0,none⟩) (by simp),Ph.aA];rfl
 ·rw[hW.cell (p:=⟨w.heap.size,1,none⟩) (by simp),Ph.aA];rfl
 ·rw[hW.cell (p:=⟨w.heap.size,2,none⟩) (by simp),Ph.aA];rfl
 ·rw[World.frozen?_of_block (a:=⟨w.heap.size,o,none⟩) (hW.block w.heap.size (by omega))]
  exact Ph.aD _ _ _ _
theorem gI (h:cT w sb qb gq hb gh n most turn M) (id:Nat) (hi:id<n) (k:Ke.K) (hk:Ke.aJ k=true):
  Calls Tryz.prog 155 #[.pointer (some ⟨sb,0,none⟩),.int .i64 (id:Int),.agg #[.bool k.e,.int .u64 k.d,.int .u8 k.l]] w fun e w'=>e= .returned (.int .i64 0)∧Below w.heap.size w w':=by
 obtain⟨R,L,hS,_⟩:=h
 exact o9 hS id hi k hk
theorem AX (h:cT w sb qb gq hb gh n most turn M) (id:Int) (k:Ke.K) (hb:id<0∨(n:Int)≤id∨Ke.aJ k=false):
  Calls Tryz.prog 167 #[.pointer (some ⟨sb,0,none⟩),.int .i64 id,.agg #[.bool k.e,.int .u64 k.d,.int .u8 k.l]] w fun e w'=>e= .returned (.int .i64 2)∧Below w.heap.size w w':=by
 have HX:=aa (jO h k)
 have HMay:=aa (tS (jO h k _ (Below.refl _ _)).1 id k hb)
 clear h hb
 go_enter Tryz.func167,Tryz.ntmps167
 go_wp2_with (go_at_call 155;refine(HMay.out).mono ?_;rintro e w1 ⟨rfl,hb1⟩;have HB1:=aa (show Below (w.heap.size+1) _ w1 by simpa using hb1);obtain⟨hs1,⟨k10,k11,k12⟩,_,hz1,hbw1⟩:=HX.out _ HB1.out;have HS1:=aa hs1;have HBW1:=aa hbw1;obtain⟨R1,L1,hst1,_⟩:=gD hs1;have c10:=hst1.c0;have c11:=hst1.c1;clear hb1 hs1 hst1 hbw1)
 go_ret
 exact⟨rfl,HBW1.out⟩
theorem se (h:cT w sb qb gq hb gh n most turn M) (id:Nat) (hi:id<n) (k:Ke.K) (hr:Ke.aJ k=true) (k':Ke.K) (hko:keyOf M id=some k'):
  Calls Tryz.prog 167 #[.pointer (some ⟨sb,0,none⟩),.int .i64 (id:Int),.agg #[.bool k.e,.int .u64 k.d,.int .u8 k.l]] w fun e w'=>e= .returned (.int .i64 5)∧Below w.heap.size w w':=by
 have HX:=aa (jO h k)
 have HMay:=aa (gI (jO h k _ (Below.refl _ _)).1 id hi k hr)
 have HKO:=aa hko
 clear h hko
 go_enter Tryz.func167,Tryz.ntmps167
 go_wp2_with (first|(go_at_call 155;refine(HMay.out).mono ?_;rintro e w1 ⟨rfl,hb1⟩;have HB1:=aa (show Below (w.heap.size+1) _ w1 by simpa using hb1);obtain⟨hs1,⟨k10,k11,k12⟩,_,hz1,hbw1⟩:=HX.out _ HB1.out;have HS1:=aa hs1;have HBW1:=aa hbw1;obtain⟨R1,L1,hst1,_⟩:=gD hs1;have c10:=hst1.c0;have c11:=hst1.c1;clear hb1 hs1 hst1 hbw1)|(go_at_call 156;refine(qH HS1.out id hi).mono ?_;rw[HKO.out];rintro e w2 ⟨rfl,hb2⟩;have HB2:=aa (HB1.out.trans (hb2.mono hz1));obtain⟨hs2,⟨k20,k21,k22⟩,_,hz2,hbw2⟩:=HX.out _ HB2.out;have HS2:=aa hs2;have HBW2:=aa hbw2;obtain⟨R2,L2,hst2,_⟩:=gD hs2;have c23:=hst2.c3;clear hb2 hs2 hst2 hbw2))
 go_ret
 exact⟨rfl,HBW2.out.alloc HBW2.out.size _⟩
theorem oO (h:cT w sb qb gq hb gh n most turn M) (id:Nat) (hi:id<n) (k:Ke.K) (hr:Ke.aJ k=true) (hko:keyOf M id=none) (hf:M.length=most):
  Calls Tryz.prog 167 #[.pointer (some ⟨sb,0,none⟩),.int .i64 (id:Int),.agg #[.bool k.e,.int .u64 k.d,.int .u8 k.l]] w fun e w'=>e= .returned (.int .i64 4)∧Below w.heap.size w w':=by
 have HX:=aa (jO h k)
 have HMay:=aa (gI (jO h k _ (Below.refl _ _)).1 id hi k hr)
 have HKO:=aa hko
 have hm1:=h.Ch
 clear h hko
 go_enter Tryz.func167,Tryz.ntmps167
 go_wp2_with (first|(go_at_call 155;refine(HMay.out).mono ?_;rintro e w1 ⟨rfl,hb1⟩;have HB1:=aa (show Below (w.heap.size+1) _ w1 by simpa using hb1);obtain⟨hs1,⟨k10,k11,k12⟩,_,hz1,hbw1⟩:=HX.out _ HB1.out;have HS1:=aa hs1;have HBW1:=aa hbw1;obtain⟨R1,L1,hst1,_⟩:=gD hs1;have c10:=hst1.c0;have c11:=hst1.c1;clear hb1 hs1 hst1 hbw1)|(go_at_call 156;refine(qH HS1.out id hi).mono ?_;rw[HKO.out];rintro e w2 ⟨rfl,hb2⟩;have HB2:=aa (HB1.out.trans (hb2.mono hz1));obtain⟨hs2,⟨k20,k21,k22⟩,_,hz2,hbw2⟩:=HX.out _ HB2.out;have HS2:=aa hs2;have HBW2:=aa hbw2;obtain⟨R2,L2,hst2,_⟩:=gD hs2;have c23:=hst2.c3;clear hb2 hs2 hst2 hbw2))
 have HW3:=aa (show Below (w.heap.size+1) (w.alloc (.cells #[.bool k.e,.int .u64 k.d,.int .u8 k.l] 130)) ((w2.alloc (.cells #[.bool false,.int .u64 0,.int .u8 0] 130)).drew) from(HB2.out.alloc hz2 _).drew)
 obtain⟨hs3,_,_,hz3,hbw3⟩:=HX.out _ HW3.out
 have HLn:=aa (CH hs3)
 rw[hf] at HLn
 obtain⟨R3,L3,hst3,_⟩:=gD hs3
 have c33:=hst3.c3
 clear hs3 hst3 hbw3 k10 k11 k12 k20 k21 k22 c10 c11 c23 hf
 go_region_held3 (fun w'=>w'.cell? ⟨sb,3,none⟩=some (.int .i64 (most:Int)))
  (first|exact c43|exact c33|go_keep)
  (first|(go_at_call 137;refine(HLn.out).mono ?_;rintro e w3 ⟨rfl,hb3⟩;have HB3:=aa (HW3.out.trans (hb3.mono (by simpa using hz3)));obtain⟨hs4,_,_,hz4,hbw4⟩:=HX.out _ HB3.out;have HBW4:=aa hbw4;obtain⟨R4,L4,hst4,_⟩:=gD hs4;have c43:=hst4.c3;clear hb3 hs4 hst4 hbw4))
 go_wp2
 go_ret
 exact⟨rfl,HBW4.out⟩
theorem FL (h:cT w sb qb gq hb gh n most turn M) (ht:turn≤1000000000) (id:Nat) (k:Ke.K) (hi:id<n) (hr:Ke.aJ k=true) (hk:k.ok) (hno:keyOf M id=none) (hlen:M.length<most):
  Calls Tryz.prog 158 #[.pointer (some ⟨sb,0,none⟩),.int .i64 (id:Int),.agg #[.bool k.e,.int .u64 k.d,.int .u8 k.l]] w fun e w'=>e= .returned (.tuple #[])∧cT w' sb qb gq hb gh n most (turn+1) (put (id,k) M)∧Fr (gx sb qb gq hb gh) w w':=by
 have hn:=h.Ch
 obtain⟨R,L,hS,hI⟩:=h
 have hm:=bX.1 hno
 have hl:=hI.len
 have hmn:=hI.mn
 have e1:=jR (x:=(id,k)) (M:=M)
 rcases kI hr hk with ⟨d,rfl⟩|⟨lv,hlv,rfl⟩
 ·refine(oL hS ht id d hi (hI.oh hm)).mono ?_
  rintro e w' ⟨rfl,a,b⟩
  refine⟨rfl,⟨R,_,a,?_,mR hI.nd hm,by rw[Ph.ly];omega,fun y hy=> ?_,by omega,hI.mn,hI.rl⟩,b.wide (fun k _ q=> ?_)⟩
  ·rw[←hI.eq,qt R L id d turn hI.lt]
  ·rcases Ph.gi.1 hy with rfl|q
   ·exact Nat.lt_succ_self _
   ·exact Nat.lt_succ_of_lt (hI.lt y q)
  ·unfold gx Own;omega
 ·refine(mf hS ht id lv hi hlv (hI.oe hm)).mono ?_
  rintro e w' ⟨rfl,a,b⟩
  refine⟨rfl,⟨_,L,a,?_,mR hI.nd hm,by simp;omega,fun y hy=>Nat.lt_succ_of_lt (hI.lt y hy),by omega,hI.mn,fun it hit=> ?_⟩,b.wide (fun k _ q=> ?_)⟩
  ·rw[←hI.eq,om R L id lv hlv]
  ·rcases List.mem_append.1 hit with q|q
   ·exact hI.rl it q
   ·simp at q;rw[q];exact hlv
  ·unfold gx Own;omega
theorem sV (h:cT w sb qb gq hb gh n most turn M) (id:Int) (k:Ke.K) (hb:id<0∨(n:Int)≤id∨Ke.aJ k=false):
  Calls Tryz.prog 118 #[.pointer (some ⟨sb,0,none⟩),.int .i64 id,.agg #[.bool k.e,.int .u64 k.d,.int .u8 k.l]] w fun e w'=>e= .returned (.int .i64 2)∧Below w.heap.size w w':=by
 have HX:=aa (jO h k)
 have HMay:=aa (tS (jO h k _ (Below.refl _ _)).1 id k hb)
 clear h hb
 go_enter Tryz.func118,Tryz.ntmps118
 go_wp2_with (go_at_call 155;refine(HMay.out).mono ?_;rintro e w1 ⟨rfl,hb1⟩;have HB1:=aa (show Below (w.heap.size+1) _ w1 by simpa using hb1);obtain⟨hs1,⟨k10,k11,k12⟩,_,hz1,hbw1⟩:=HX.out _ HB1.out;have HS1:=aa hs1;have HBW1:=aa hbw1;obtain⟨R1,L1,hst1,_⟩:=gD hs1;have c10:=hst1.c0;have c11:=hst1.c1;clear hb1 hs1 hst1 hbw1)
 go_ret
 exact⟨rfl,HBW1.out⟩
theorem pf (h:cT w sb qb gq hb gh n most turn M) (id:Nat) (hi:id<n) (k:Ke.K) (hr:Ke.aJ k=true) (hko:keyOf M id=none):
  Calls Tryz.prog 118 #[.pointer (some ⟨sb,0,none⟩),.int .i64 (id:Int),.agg #[.bool k.e,.int .u64 k.d,.int .u8 k.l]] w fun e w'=>e= .returned (.int .i64 6)∧Below w.heap.size w w':=by
 have HX:=aa (jO h k)
 have HMay:=aa (gI (jO h k _ (Below.refl _ _)).1 id hi k hr)
 have HKEY:Hid (∀W,cT W sb qb gq hb gh n most turn M→Calls Tryz.prog 156 #[.agg #[.pointer (some ⟨qb,0,none⟩),.pointer (some ⟨hb,0,none⟩)],.int .i64 (id:Int)] W fun e w'=>e= .returned (.tuple #[.agg #[.bool false,.int .u64 0,.int .u8 0],.bool false])∧Below W.heap.size W w'):=fun W hW=>by
  have:=qH hW id hi
  rw[hko] at this
  exact this
 have HRM:Hid (∀W,cT W sb qb gq hb gh n most turn M→Calls Tryz.prog 157 #[.pointer (some ⟨sb,0,none⟩),.int .i64 (id:Int)] W fun e w'=>e= .returned (.int .i64 6)∧w'=W):=fun W hW=>by
  obtain⟨R,L,hS,hI⟩:=hW
  have hm:=bX.1 hko
  exact jH hS id hi (hI.oe hm) (hI.oh hm)
 clear h hko
 go_enter Tryz.func118,Tryz.ntmps118
 go_wp2_with (first|(go_at_call 155;refine(HMay.out).mono ?_;rintro e w1 ⟨rfl,hb1⟩;have HB1:=aa (show Below (w.heap.size+1) _ w1 by simpa using hb1);obtain⟨hs1,⟨k10,k11,k12⟩,_,hz1,hbw1⟩:=HX.out _ HB1.out;have HS1:=aa hs1;have HBW1:=aa hbw1;obtain⟨R1,L1,hst1,_⟩:=gD hs1;have c10:=hst1.c0;have c11:=hst1.c1;clear hb1 hs1 hst1 hbw1)|(go_at_call 156;refine(HKEY.out _ HS1.out).mono ?_;rintro e w2 ⟨rfl,hb2⟩;have HB2:=aa (HB1.out.trans (hb2.mono hz1));have hz2:=(HX.out _ HB2.out).2.2.2.1;have HB3:=aa (HB2.out.alloc hz2 (.cells #[.bool false,.int .u64 0,.int .u8 0] 130));obtain⟨hs3,⟨k30,k31,k32⟩,_,hz3,hbw3⟩:=HX.out _ HB3.out;have HS3:=aa hs3;have HBW3:=aa hbw3;have y0: ¬w.heap.size=w2.heap.size:=(by omega);have y1: ¬w2.heap.size=w.heap.size:=(by omega);obtain⟨_,⟨k20,k21,k22⟩,_,_,_⟩:=HX.out _ HB2.out;clear hb2 hs3 hbw3)|(go_at_call 157;refine(HRM.out _ HS3.out).mono ?_;rintro e w4 ⟨rfl,hw⟩;subst hw))
 go_ret
 exact⟨rfl,HBW3.out⟩
theorem pK (h:cT w sb qb gq hb gh n most turn M) (id:Nat) (hi:id<n) (k:Ke.K) (hr:Ke.aJ k=true) (hko:keyOf M id=some k):
  Calls Tryz.prog 118 #[.pointer (some ⟨sb,0,none⟩),.int .i64 (id:Int),.agg #[.bool k.e,.int .u64 k.d,.int .u8 k.l]] w fun e w'=>e= .returned (.int .i64 0)∧Below w.heap.size w w':=by
 have HX:=aa (jO h k)
 have HMay:=aa (gI (jO h k _ (Below.refl _ _)).1 id hi k hr)
 have HKEY:Hid (∀W,cT W sb qb gq hb gh n most turn M→Calls Tryz.prog 156 #[.agg #[.pointer (some ⟨qb,0,none⟩),.pointer (some ⟨hb,0,none⟩)],.int .i64 (id:Int)] W fun e w'=>e= .returned (.tuple #[.agg #[.bool k.e,.int .u64 k.d,.int .u8 k.l],.bool true])∧Below W.heap.size W w'):=fun W hW=>by
  have:=qH hW id hi
  rw[hko] at this
  exact this
 have hsm:Ke.same k k=true:=by rw[Ke.ua];exact decide_eq_true rfl
 clear h hko
 go_enter Tryz.func118,Tryz.ntmps118
 go_wp2_with (first|(go_at_call 155;refine(HMay.out).mono ?_;rintro e w1 ⟨rfl,hb1⟩;have HB1:=aa (show Below (w.heap.size+1) _ w1 by simpa using hb1);obtain⟨hs1,⟨k10,k11,k12⟩,_,hz1,hbw1⟩:=HX.out _ HB1.out;have HS1:=aa hs1;have HBW1:=aa hbw1;obtain⟨R1,L1,hst1,_⟩:=gD hs1;have c10:=hst1.c0;have c11:=hst1.c1;clear hb1 hs1 hst1 hbw1)|(go_at_call 156;refine(HKEY.out _ HS1.out).mono ?_;rintro e w2 ⟨rfl,hb2⟩;have HB2:=aa (HB1.out.trans (hb2.mono hz1));have hz2:=(HX.out _ HB2.out).2.2.2.1;have HB3:=aa (HB2.out.alloc hz2 (.cells #[.bool k.e,.int .u64 k.d,.int .u8 k.l] 130));obtain⟨hs3,⟨k30,k31,k32⟩,_,hz3,hbw3⟩:=HX.out _ HB3.out;have HS3:=aa hs3;have HBW3:=aa hbw3;have y0: ¬w.heap.size=w2.heap.size:=(by omega);have y1: ¬w2.heap.size=w.heap.size:=(by omega);obtain⟨_,⟨k20,k21,k22⟩,_,_,_⟩:=HX.out _ HB2.out;clear hb2 hs3 hbw3))
 go_ret
 exact⟨rfl,HBW3.out⟩
theorem nR (h:cT w sb qb gq hb gh n most turn M) (ht:turn≤1000000000) (id:Nat) (hi:id<n) (k:Ke.K) (hr:Ke.aJ k=true) (hk:k.ok) (k':Ke.K) (hko:keyOf M id=some k') (hne:k'≠k):
  Calls Tryz.prog 118 #[.pointer (some ⟨sb,0,none⟩),.int .i64 (id:Int),.agg #[.bool k.e,.int .u64 k.d,.int .u8 k.l]] w fun e w'=>e= .returned (.int .i64 0)∧cT w' sb qb gq hb gh n most (turn+1) (put (id,k) (cut id M))∧Fr (gx sb qb gq hb gh) w w':=by
 have HX:=aa (jO h k)
 have HMay:=aa (gI (jO h k _ (Below.refl _ _)).1 id hi k hr)
 have HKEY:Hid (∀W,cT W sb qb gq hb gh n most turn M→Calls Tryz.prog 156 #[.agg #[.pointer (some ⟨qb,0,none⟩),.pointer (some ⟨hb,0,none⟩)],.int .i64 (id:Int)] W fun e w'=>e= .returned (.tuple #[.agg #[.bool k'.e,.int .u64 k'.d,.int .u8 k'.l],.bool true])∧Below W.heap.size W w'):=fun W hW=>by
  have:=qH hW id hi
  rw[hko] at this
  exact this
 have hsm:Ke.same k' k=false:=by rw[Ke.ua];exact decide_eq_false hne
 obtain⟨R,L,hS,hI⟩:=gD h
 have hmem:=(dM hI.nd).1 hko
 have HMEM:=aa hmem
 have hcl:=jE hI.nd hmem
 have hfit:=hI.fits
 have HNC:Hid (keyOf (cut id M) id=none):=bX.2 (fun y hy=>(iB.1 hy).2)
 have HLC:Hid ((cut id M).length<most):=by unfold Hid;omega
 have hnb: ¬Own qb gq hb gh w.heap.size:=by have:=h.blocks w.heap.size;intro q;exact absurd (this (.inr q)) (by omega)
 have HNB:=aa hnb
 clear h hko hS hI hmem hcl hfit hne hnb
 go_enter Tryz.func118,Tryz.ntmps118
 go_wp2_with (first
  |(go_at_call 155;refine(HMay.out).mono ?_;rintro e w1 ⟨rfl,hb1⟩;have HB1:=aa (show Below (w.heap.size+1) _ w1 by simpa using hb1);obtain⟨hs1,⟨k10,k11,k12⟩,_,hz1,hbw1⟩:=HX.out _ HB1.out;have HS1:=aa hs1;have HBW1:=aa hbw1;obtain⟨R1,L1,hst1,_⟩:=gD hs1;have c10:=hst1.c0;have c11:=hst1.c1;clear hb1 hs1 hst1 hbw1)
  |(go_at_call 156;refine(HKEY.out _ HS1.out).mono ?_;rintro e w2 ⟨rfl,hb2⟩;have HB2:=aa (HB1.out.trans (hb2.mono hz1));have hz2:=(HX.out _ HB2.out).2.2.2.1;have HB3:=aa (HB2.out.alloc hz2 (.cells #[.bool k'.e,.int .u64 k'.d,.int .u8 k'.l] 130));obtain⟨hs3,⟨k30,k31,k32⟩,_,hz3,hbw3⟩:=HX.out _ HB3.out;have HS3:=aa hs3;have HBW3:=aa hbw3;have y0: ¬w.heap.size=w2.heap.size:=(by omega);have y1: ¬w2.heap.size=w.heap.size:=(by omega);obtain⟨_,⟨k20,k21,k22⟩,_,_,_⟩:=HX.out _ HB2.out;clear hb2 hs3 hbw3)
  |(go_at_call 157;refine(nX HS3.out HMEM.out).mono ?_;rintro e w4 ⟨rfl,hs4,hf4⟩;have HS4:=aa hs4;have HF4:=aa hf4;have m0:=(hf4.cell (a:=⟨w.heap.size,0,none⟩) hz3 HNB.out).trans k30;have m1:=(hf4.cell (a:=⟨w.heap.size,1,none⟩) hz3 HNB.out).trans k31;have m2:=(hf4.cell (a:=⟨w.heap.size,2,none⟩) hz3 HNB.out).trans k32;clear hs4 hf4)
  |(go_at_call 158;refine(FL HS4.out ht id k hi hr hk HNC.out HLC.out).mono ?_;rintro e w5 ⟨rfl,hs5,hf5⟩;have HS5:=aa hs5;have HF5:=aa (((Fr.aC HBW3.out).trans (HF4.out.wide (fun q _ z=>(.inr z:gx sb qb gq hb gh q)))).trans hf5);clear hs5 hf5))
 go_ret
 exact⟨rfl,HS5.out,HF5.out⟩
end
end Go.Proofs.YtdbailcdlngemaaGreatDoor
namespace Go.Proofs.YtdbailcdlngemaaGreatDoor
open Go.RowKit
def nH (n:Nat) (id:Int) (k:Ke.K):Prop:=id<0∨(n:Int)≤id∨Ke.aJ k=false
instance (n:Nat) (id:Int) (k:Ke.K):Decidable (nH n id k):=inferInstanceAs (Decidable (_∨_∨_))
def DP (n most:Nat) (M:List En) (id:Int) (k:Ke.K):Int:=if nH n id k then 2 else if (keyOf M id.toNat).isSome then 5 else if M.length=most then 4 else 0
def xI (n most:Nat) (M:List En) (id:Int) (k:Ke.K):List En:=if DP n most M id k=0 then put (id.toNat,k) M else M
def jC (n:Nat) (M:List En) (id:Int) (k:Ke.K):Int:=if nH n id k then 2 else if (keyOf M id.toNat).isSome then 0 else 6
def fI (n:Nat) (M:List En) (id:Int) (k:Ke.K):List En:=if jC n M id k=0 then(if keyOf M id.toNat=some k then M else put (id.toNat,k) (cut id.toNat M)) else M
def xk (n:Nat) (M:List En) (id:Int):Int:=if id<0∨(n:Int)≤id then 2 else if (keyOf M id.toNat).isSome then 0 else 6
def Av (n:Nat) (M:List En) (id:Int):List En:=if xk n M id=0 then cut id.toNat M else M
def rL:List En→Int
 |[]=>0
 |x::_=>(x.1:Int)
def gF:List En→Ke.K
 |[]=>⟨false,0,0⟩
 |x::_=>x.2
def Gy:List En→Bool
 |[]=>false
 |_::_=>true
theorem j4 (n:Nat) (M:List En) (id:Int) (k:Ke.K):nH n id k∨(∃i:Nat,id=i∧i<n∧Ke.aJ k=true∧ ¬nH n (i:Int) k):=by
 by_cases h:nH n id k
 ·exact .inl h
 ·have h':=h
  unfold nH at h'
  simp only[not_or] at h'
  obtain⟨i,rfl⟩:=Int.eq_ofNat_of_zero_le (show 0≤id by omega)
  refine .inr ⟨i,rfl,by omega,?_,h⟩
  simpa using h'.2.2
section
variable {w:World} {sb qb gq hb gh n most turn:Nat} {M:List En}
theorem cT.nd (h:cT w sb qb gq hb gh n most turn M):(M.map (·.1)).Nodup:=by obtain⟨_,_,_,hI⟩:=h;exact hI.nd
theorem cT.fit (h:cT w sb qb gq hb gh n most turn M):M.length≤most:=by obtain⟨_,_,_,hI⟩:=h;exact hI.fits
theorem FA (h:cT w sb qb gq hb gh n most turn M) (ht:turn≤1000000000) (id:Int) (k:Ke.K) (hk:k.ok):
  Calls Tryz.prog 167 #[.pointer (some ⟨sb,0,none⟩),.int .i64 id,.agg #[.bool k.e,.int .u64 k.d,.int .u8 k.l]] w fun e w'=>e= .returned (.int .i64 (DP n most M id k))∧(∃t,t≤turn+1∧cT w' sb qb gq hb gh n most t (xI n most M id k))∧Fr (gx sb qb gq hb gh) w w':=by
 unfold xI DP
 rcases j4 n M id k with hb|⟨i,rfl,hi,hr,hnb⟩
 ·rw[if_pos hb,if_neg (by decide)]
  refine(AX h id k hb).mono ?_
  rintro e w' ⟨rfl,hb'⟩
  exact⟨rfl,⟨turn,by omega,h.below hb'⟩,Fr.aC hb'⟩
 ·rw[if_neg hnb]
  cases hko:keyOf M (i:Int).toNat with
  |some k'=>
   rw[if_pos (show(some k').isSome=true from rfl),if_neg (by decide)]
   refine(se h i hi k hr k' hko).mono ?_
   rintro e w' ⟨rfl,hb'⟩
   exact⟨rfl,⟨turn,by omega,h.below hb'⟩,Fr.aC hb'⟩
  |none=>
   rw[if_neg (by simp)]
   by_cases hf:M.length=most
   ·rw[if_pos hf,if_neg (by decide)]
    refine(oO h i hi k hr hko hf).mono ?_
    rintro e w' ⟨rfl,hb'⟩
    exact⟨rfl,⟨turn,by omega,h.below hb'⟩,Fr.aC hb'⟩
   ·rw[if_neg hf,if_pos rfl]
    have:=h.fit
    refine(uq h ht i k hi hr hk hko (by omega)).mono ?_
    rintro e w' ⟨rfl,hs,hf'⟩
    exact⟨rfl,⟨turn+1,by omega,hs⟩,hf'⟩
theorem rA (h:cT w sb qb gq hb gh n most turn M) (ht:turn≤1000000000) (id:Int) (k:Ke.K) (hk:k.ok):
  Calls Tryz.prog 118 #[.pointer (some ⟨sb,0,none⟩),.int .i64 id,.agg #[.bool k.e,.int .u64 k.d,.int .u8 k.l]] w fun e w'=>e= .returned (.int .i64 (jC n M id k))∧(∃t,t≤turn+1∧cT w' sb qb gq hb gh n most t (fI n M id k))∧Fr (gx sb qb gq hb gh) w w':=by
 unfold fI jC
 rcases j4 n M id k with hb|⟨i,rfl,hi,hr,hnb⟩
 ·rw[if_pos hb,if_neg (by decide)]
  refine(sV h id k hb).mono ?_
  rintro e w' ⟨rfl,hb'⟩
  exact⟨rfl,⟨turn,by omega,h.below hb'⟩,Fr.aC hb'⟩
 ·rw[if_neg hnb]
  cases hko:keyOf M (i:Int).toNat with
  |none=>
   rw[if_neg (by simp),if_neg (by decide)]
   refine(pf h i hi k hr hko).mono ?_
   rintro e w' ⟨rfl,hb'⟩
   exact⟨rfl,⟨turn,by omega,h.below hb'⟩,Fr.aC hb'⟩
  |some k'=>
   rw[if_pos (show(some k').isSome=true from rfl),if_pos rfl]
   by_cases hkk:k'=k
   ·subst hkk
    rw[if_pos rfl]
    refine(pK h i hi k' hr hko).mono ?_
    rintro e w' ⟨rfl,hb'⟩
    exact⟨rfl,⟨turn,by omega,h.below hb'⟩,Fr.aC hb'⟩
   ·rw[if_neg (fun q=>hkk (Option.some.inj q))]
    refine(nR h ht i hi k hr hk k' hko hkk).mono ?_
    rintro e w' ⟨rfl,hs,hf'⟩
    exact⟨rfl,⟨turn+1,by omega,hs⟩,hf'⟩
theorem Own.wide {k:Nat} (h:Own qb gq hb gh k):gx sb qb gq hb gh k:= .inr h
theorem pY (h:cT w sb qb gq hb gh n most turn M) (id:Int):
  Calls Tryz.prog 157 #[.pointer (some ⟨sb,0,none⟩),.int .i64 id] w fun e w'=>e= .returned (.int .i64 (xk n M id))∧(∃t,t≤turn+1∧cT w' sb qb gq hb gh n most t (Av n M id))∧Fr (gx sb qb gq hb gh) w w':=by
 unfold Av xk
 by_cases hb:id<0∨(n:Int)≤id
 ·rw[if_pos hb,if_neg (by decide)]
  obtain⟨R,L,hS,hI⟩:=gD h
  refine(nP hS id hb).mono ?_
  rintro e w' ⟨rfl,rfl⟩
  exact⟨rfl,⟨turn,by omega,h⟩,Fr.refl _ _⟩
 ·rw[if_neg hb]
  obtain⟨i,rfl⟩:=Int.eq_ofNat_of_zero_le (show 0≤id by omega)
  cases hko:keyOf M (i:Int).toNat with
  |none=>
   rw[if_neg (by simp),if_neg (by decide)]
   obtain⟨R,L,hS,hI⟩:=gD h
   have hm:=bX.1 hko
   refine(jH hS i (by omega) (hI.oe hm) (hI.oh hm)).mono ?_
   rintro e w' ⟨rfl,rfl⟩
   exact⟨rfl,⟨turn,by omega,h⟩,Fr.refl _ _⟩
  |some k'=>
   rw[if_pos (show(some k').isSome=true from rfl),if_pos rfl]
   refine(nX h ((dM h.nd).1 hko)).mono ?_
   rintro e w' ⟨rfl,hs,hf'⟩
   exact⟨rfl,⟨turn,by omega,hs⟩,hf'.wide (fun k _ q=>Own.wide q)⟩
theorem yF (h:cT w sb qb gq hb gh n most turn M):
  Calls Tryz.prog 136 #[.pointer (some ⟨sb,0,none⟩)] w fun e w'=>e= .returned (.tuple #[.int .i64 (rL M),.agg #[.bool (gF M).e,.int .u64 (gF M).d,.int .u8 (gF M).l],.bool (Gy M)])∧Below w.heap.size w w':=by
 cases M with
 |nil=>exact vG h.wF
 |cons x M=>exact DS h
end
section
variable {w:World} {base rb n most:Nat} {v:Value} {M:List En}
end
section
variable {w w' w'':World} {base sb qb gq hb gh rb n most turn turn':Nat} {v v':Value} {M M':List En}
end
end Go.Proofs.YtdbailcdlngemaaGreatDoor

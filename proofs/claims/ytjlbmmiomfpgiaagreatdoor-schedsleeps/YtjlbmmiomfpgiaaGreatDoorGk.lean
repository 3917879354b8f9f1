/- YtjlbmmiomfpgiaaGreatDoorGk: of the texts V1 Wa1 Wa0 Wa2 V2 V3 Wa3 Wa4 Wa5 Wa6 Wa7 Wa8 Wa9 Wb1 Wb2 Wb3 Wb4 Wb5 Wb6 Wg1 what is wanted. -/
import Derived.Test.YtjlbmmiomfpgiaaGreatDoorG0
import Derived.Test.YtjlbmmiomfpgiaaGreatDoorRows
import Derived.WalkKit
import Derived.Below
import Derived.WalkSpells
import Derived.WalkLawsBesides
import Derived.StillTactics
import Derived.RegionTactic
import Derived.RowKit3
import Derived.Laws.MakeOwn
import Derived.OwnWalk
import Derived.Deep.QuietTactic
import Derived.BigQuiet
import Derived.Maps.OwnSet
import Derived.Maps.RangeWalk
import Derived.Deep.RegionHeld3
import Derived.Deep.DrawnRows
import Derived.Lib.SmallJoins
import Derived.Maps.Own
import Derived.Deep.Cut
import Derived.Laws.OwnMore
import Derived.Laws.IdiomCopy
import Derived.Sort.OwnSorted
set_option maxHeartbeats 16000000
set_option maxRecDepth 100000
set_option linter.unusedVariables false
set_option linter.unusedSimpArgs false
namespace Go.Proofs.YtjlbmmiomfpgiaaGreatDoor.Wh
open Go.RowKit
theorem aa {p:Prop} (h:p):Hid p:=h
def au {α:Type} (f:Nat->α) (i:Nat) (x:α):Nat->α:=fun j=>if j=i then x else f j
theorem aj {α:Type} (f:Nat->α) (i:Nat) (x:α):au f i x i=x:=by simp[au]
theorem af {α:Type} (f:Nat->α) (i:Nat) (x:α) (j:Nat) (h:j≠i):au f i x j=f j:=by simp[au,h]
theorem ax (w:World) (a:Addr) (x u:Value) (h:w.cell? a=some u):(w.setCell a x).cell? a=some x:=World.cell?_setCell_same _ _ _ h
theorem ab (w:World) (b o b' o':Nat) (x:Value) (h: ¬(b=b'/\o=o')):(w.setCell ⟨b,o,none⟩ x).cell? ⟨b',o',none⟩=w.cell? ⟨b',o',none⟩:=
 World.cell?_setCell_other _ _ _ _ (by intro e;simp only[Addr.mk.injEq,and_true] at e;exact h e)
structure aG (b g:Nat) (w w':World):Prop where
 os:w'.os=w.os
 tape:w'.tape=w.tape
 output:w'.output=w.output
 size:w.heap.size<=w'.heap.size
 block: ∀k,k<w.heap.size->k≠b->k≠g->w'.heap[k]? =w.heap[k]?
theorem aG.refl (b g:Nat) (w:World):aG b g w w:=⟨rfl,rfl,rfl,i8 _,fun _ _ _ _=>rfl⟩
theorem aG.trans {b g:Nat} {w1 w2 w3:World} (h:aG b g w1 w2) (k:aG b g w2 w3):aG b g w1 w3:=
 ⟨k.os.trans h.os,k.tape.trans h.tape,k.output.trans h.output,yX0 h.size k.size,fun i hi a c=>(k.block i (zW0 hi h.size) a c).trans (h.block i hi a c)⟩
theorem aG.drew {b g:Nat} {w w':World} (h:aG b g w w'):aG b g w w'.drew:=⟨h.os,h.tape,h.output,h.size,h.block⟩
theorem aG.alloc {b g:Nat} {w w':World} (h:aG b g w w') (o:Obj):aG b g w (w'.alloc o):=
 ⟨h.os,h.tape,h.output,yX0 h.size (by simp),fun k hk a c=>by rw[Below.heap_alloc _ _ _ (zW0 hk h.size)];exact h.block k hk a c⟩
theorem aG.set {b g:Nat} {w w':World} (h:aG b g w w') (p:Addr) (x:Value) (hp:p.block=b\/p.block=g):aG b g w (w'.setCell p x):=
 ⟨h.os,h.tape,h.output,by simp[World.setCell];exact h.size,fun k hk a c=>by rw[yY0 _ _ _ _ (by rcases hp with e|e<;>omega)];exact h.block k hk a c⟩
theorem aG.gw {b g:Nat} {w w':World} (h:Below w.heap.size w w'):aG b g w w':=⟨h.os,h.tape,h.output,h.size,fun k hk _ _=>h.block k hk⟩
structure aB (w:World) (b g n nw ct:Nat) (fm:Value) (F L A B E:Nat->Nat) (T:Nat->Bool):Prop where
 bg:b≠g
 en: ∃cp,w.cell? ⟨b,130,none⟩=some (.slice (some ⟨g,0,none⟩) (n+1) cp)
 tn:w.cell? ⟨b,0,none⟩=some (.int .u64 (nw:Int))
 tm:w.cell? ⟨b,129,none⟩=some (fm)
 tc:w.cell? ⟨b,131,none⟩=some (.int .i64 (ct:Int))
 sf: ∀x,x<64->w.cell? ⟨b,1+x*2,none⟩=some (.int .i64 ((F x:Nat):Int))
 sl: ∀x,x<64->w.cell? ⟨b,1+x*2+1,none⟩=some (.int .i64 ((L x:Nat):Int))
 ea: ∀x,x<=n->w.cell? ⟨g,x*4,none⟩=some (.int .i64 ((A x:Nat):Int))
 eb: ∀x,x<=n->w.cell? ⟨g,x*4+1,none⟩=some (.int .i64 ((B x:Nat):Int))
 ee: ∀x,x<=n->w.cell? ⟨g,x*4+2,none⟩=some (.int .u64 ((E x:Nat):Int))
 et: ∀x,x<=n->w.cell? ⟨g,x*4+3,none⟩=some (.bool (T x))
 fb: ∀o,w.frozen? ⟨b,o,none⟩=false
 fg: ∀o,w.frozen? ⟨g,o,none⟩=false
section
variable {w:World} {b g n nw ct:Nat} {fm:Value} {F L A B E:Nat->Nat} {T:Nat->Bool}
theorem aB.bS (h:aB w b g n nw ct fm F L A B E T):b<w.heap.size:=zX0 w ⟨b,0,none⟩ h.tn
theorem aB.cY (h:aB w b g n nw ct fm F L A B E T):g<w.heap.size:=zX0 w ⟨g,0*4,none⟩ (h.ea 0 (Nat.zero_le _))
theorem aB.kept {w':World} (h:aB w b g n nw ct fm F L A B E T) (hb:w'.heap[b]? =w.heap[b]?) (hg:w'.heap[g]? =w.heap[g]?):aB w' b g n nw ct fm F L A B E T:=by
 have eb: ∀o,w'.cell? ⟨b,o,none⟩=w.cell? ⟨b,o,none⟩:=fun o=>by simp only[World.cell?,hb]
 have eg: ∀o,w'.cell? ⟨g,o,none⟩=w.cell? ⟨g,o,none⟩:=fun o=>by simp only[World.cell?,hg]
 have ib: ∀o,w'.frozen? ⟨b,o,none⟩=w.frozen? ⟨b,o,none⟩:=fun o=>by simp only[World.frozen?,hb]
 have ig: ∀o,w'.frozen? ⟨g,o,none⟩=w.frozen? ⟨g,o,none⟩:=fun o=>by simp only[World.frozen?,hg]
 exact⟨h.bg,by simp only[eb];exact h.en,by rw[eb];exact h.tn,by rw[eb];exact h.tm,by rw[eb];exact h.tc,fun x hx=>by rw[eb];exact h.sf x hx,fun x hx=>by rw[eb];exact h.sl x hx,fun x hx=>by rw[eg];exact h.ea x hx,fun x hx=>by rw[eg];exact h.eb x hx,fun x hx=>by rw[eg];exact h.ee x hx,fun x hx=>by rw[eg];exact h.et x hx,fun o=>by rw[ib];exact h.fb o,fun o=>by rw[ig];exact h.fg o⟩
theorem aB.fi {w':World} (h:aB w b g n nw ct fm F L A B E T) (e:w'.heap=w.heap):aB w' b g n nw ct fm F L A B E T:=h.kept (by rw[e]) (by rw[e])
theorem aB.drew (h:aB w b g n nw ct fm F L A B E T):aB w.drew b g n nw ct fm F L A B E T:=h.fi rfl
theorem aB.below (h:aB w b g n nw ct fm F L A B E T) {w':World} (hw:Below w.heap.size w w'):aB w' b g n nw ct fm F L A B E T:=h.kept (hw.block b h.bS) (hw.block g h.cY)
theorem aB.alloc (h:aB w b g n nw ct fm F L A B E T) (o:Obj):aB (w.alloc o) b g n nw ct fm F L A B E T:=h.below ((z9 _ _).alloc (i8 _) o)
theorem aB.FY (h:aB w b g n nw ct fm F L A B E T) (v:Nat):aB (w.setCell ⟨b,0,none⟩ (.int .u64 (v:Int))) b g n v ct fm F L A B E T:=
 ⟨h.bg,by obtain⟨cp,q⟩:=h.en;exact⟨cp,by rw[ab _ _ _ _ _ _ (by have:=h.bg;omega)];exact q⟩,ax _ _ _ _ h.tn,by rw[ab _ _ _ _ _ _ (by have:=h.bg;omega)];exact h.tm,by rw[ab _ _ _ _ _ _ (by have:=h.bg;omega)];exact h.tc,
  fun x hx=>by rw[ab _ _ _ _ _ _ (by have:=h.bg;omega)];exact h.sf x hx,
  fun x hx=>by rw[ab _ _ _ _ _ _ (by have:=h.bg;omega)];exact h.sl x hx,
  fun x hx=>by rw[ab _ _ _ _ _ _ (by have:=h.bg;omega)];exact h.ea x hx,
  fun x hx=>by rw[ab _ _ _ _ _ _ (by have:=h.bg;omega)];exact h.eb x hx,
  fun x hx=>by rw[ab _ _ _ _ _ _ (by have:=h.bg;omega)];exact h.ee x hx,
  fun x hx=>by rw[ab _ _ _ _ _ _ (by have:=h.bg;omega)];exact h.et x hx,
  fun o=>by simpa using h.fb o,fun o=>by simpa using h.fg o⟩
theorem aB.sm (h:aB w b g n nw ct fm F L A B E T) (v:Nat):aB (w.setCell ⟨b,131,none⟩ (.int .i64 (v:Int))) b g n nw v fm F L A B E T:=
 ⟨h.bg,by obtain⟨cp,q⟩:=h.en;exact⟨cp,by rw[ab _ _ _ _ _ _ (by have:=h.bg;omega)];exact q⟩,by rw[ab _ _ _ _ _ _ (by have:=h.bg;omega)];exact h.tn,by rw[ab _ _ _ _ _ _ (by have:=h.bg;omega)];exact h.tm,ax _ _ _ _ h.tc,
  fun x hx=>by rw[ab _ _ _ _ _ _ (by have:=h.bg;omega)];exact h.sf x hx,
  fun x hx=>by rw[ab _ _ _ _ _ _ (by have:=h.bg;omega)];exact h.sl x hx,
  fun x hx=>by rw[ab _ _ _ _ _ _ (by have:=h.bg;omega)];exact h.ea x hx,
  fun x hx=>by rw[ab _ _ _ _ _ _ (by have:=h.bg;omega)];exact h.eb x hx,
  fun x hx=>by rw[ab _ _ _ _ _ _ (by have:=h.bg;omega)];exact h.ee x hx,
  fun x hx=>by rw[ab _ _ _ _ _ _ (by have:=h.bg;omega)];exact h.et x hx,
  fun o=>by simpa using h.fb o,fun o=>by simpa using h.fg o⟩
theorem aB.cS (h:aB w b g n nw ct fm F L A B E T) (p:Nat) (hp:p<64) (v:Nat):aB (w.setCell ⟨b,1+p*2,none⟩ (.int .i64 (v:Int))) b g n nw ct fm (au F p v) L A B E T:=
 ⟨h.bg,by obtain⟨cp,q⟩:=h.en;exact⟨cp,by rw[ab _ _ _ _ _ _ (by have:=h.bg;omega)];exact q⟩,by rw[ab _ _ _ _ _ _ (by have:=h.bg;omega)];exact h.tn,by rw[ab _ _ _ _ _ _ (by have:=h.bg;omega)];exact h.tm,by rw[ab _ _ _ _ _ _ (by have:=h.bg;omega)];exact h.tc,
  fun x hx=>by
   by_cases e:x=p
   ·subst e;rw[aj];exact ax _ _ _ _ (h.sf x hx)
   ·rw[af _ _ _ _ e,ab _ _ _ _ _ _ (by have:=h.bg;omega)];exact h.sf x hx,
  fun x hx=>by rw[ab _ _ _ _ _ _ (by have:=h.bg;omega)];exact h.sl x hx,
  fun x hx=>by rw[ab _ _ _ _ _ _ (by have:=h.bg;omega)];exact h.ea x hx,
  fun x hx=>by rw[ab _ _ _ _ _ _ (by have:=h.bg;omega)];exact h.eb x hx,
  fun x hx=>by rw[ab _ _ _ _ _ _ (by have:=h.bg;omega)];exact h.ee x hx,
  fun x hx=>by rw[ab _ _ _ _ _ _ (by have:=h.bg;omega)];exact h.et x hx,
  fun o=>by simpa using h.fb o,fun o=>by simpa using h.fg o⟩
theorem aB.oe (h:aB w b g n nw ct fm F L A B E T) (p:Nat) (hp:p<64) (v:Nat):aB (w.setCell ⟨b,1+p*2+1,none⟩ (.int .i64 (v:Int))) b g n nw ct fm F (au L p v) A B E T:=
 ⟨h.bg,by obtain⟨cp,q⟩:=h.en;exact⟨cp,by rw[ab _ _ _ _ _ _ (by have:=h.bg;omega)];exact q⟩,by rw[ab _ _ _ _ _ _ (by have:=h.bg;omega)];exact h.tn,by rw[ab _ _ _ _ _ _ (by have:=h.bg;omega)];exact h.tm,by rw[ab _ _ _ _ _ _ (by have:=h.bg;omega)];exact h.tc,
  fun x hx=>by rw[ab _ _ _ _ _ _ (by have:=h.bg;omega)];exact h.sf x hx,
  fun x hx=>by
   by_cases e:x=p
   ·subst e;rw[aj];exact ax _ _ _ _ (h.sl x hx)
   ·rw[af _ _ _ _ e,ab _ _ _ _ _ _ (by have:=h.bg;omega)];exact h.sl x hx,
  fun x hx=>by rw[ab _ _ _ _ _ _ (by have:=h.bg;omega)];exact h.ea x hx,
  fun x hx=>by rw[ab _ _ _ _ _ _ (by have:=h.bg;omega)];exact h.eb x hx,
  fun x hx=>by rw[ab _ _ _ _ _ _ (by have:=h.bg;omega)];exact h.ee x hx,
  fun x hx=>by rw[ab _ _ _ _ _ _ (by have:=h.bg;omega)];exact h.et x hx,
  fun o=>by simpa using h.fb o,fun o=>by simpa using h.fg o⟩
theorem aB.fh (h:aB w b g n nw ct fm F L A B E T) (p:Nat) (hp:p<=n) (v:Nat):aB (w.setCell ⟨g,p*4,none⟩ (.int .i64 (v:Int))) b g n nw ct fm F L (au A p v) B E T:=
 ⟨h.bg,by obtain⟨cp,q⟩:=h.en;exact⟨cp,by rw[ab _ _ _ _ _ _ (by have:=h.bg;omega)];exact q⟩,by rw[ab _ _ _ _ _ _ (by have:=h.bg;omega)];exact h.tn,by rw[ab _ _ _ _ _ _ (by have:=h.bg;omega)];exact h.tm,by rw[ab _ _ _ _ _ _ (by have:=h.bg;omega)];exact h.tc,
  fun x hx=>by rw[ab _ _ _ _ _ _ (by have:=h.bg;omega)];exact h.sf x hx,
  fun x hx=>by rw[ab _ _ _ _ _ _ (by have:=h.bg;omega)];exact h.sl x hx,
  fun x hx=>by
   by_cases e:x=p
   ·subst e;rw[aj];exact ax _ _ _ _ (h.ea x hx)
   ·rw[af _ _ _ _ e,ab _ _ _ _ _ _ (by have:=h.bg;omega)];exact h.ea x hx,
  fun x hx=>by rw[ab _ _ _ _ _ _ (by have:=h.bg;omega)];exact h.eb x hx,
  fun x hx=>by rw[ab _ _ _ _ _ _ (by have:=h.bg;omega)];exact h.ee x hx,
  fun x hx=>by rw[ab _ _ _ _ _ _ (by have:=h.bg;omega)];exact h.et x hx,
  fun o=>by simpa using h.fb o,fun o=>by simpa using h.fg o⟩
theorem aB.fe (h:aB w b g n nw ct fm F L A B E T) (p:Nat) (hp:p<=n) (v:Nat):aB (w.setCell ⟨g,p*4+1,none⟩ (.int .i64 (v:Int))) b g n nw ct fm F L A (au B p v) E T:=
 ⟨h.bg,by obtain⟨cp,q⟩:=h.en;exact⟨cp,by rw[ab _ _ _ _ _ _ (by have:=h.bg;omega)];exact q⟩,by rw[ab _ _ _ _ _ _ (by have:=h.bg;omega)];exact h.tn,by rw[ab _ _ _ _ _ _ (by have:=h.bg;omega)];exact h.tm,by rw[ab _ _ _ _ _ _ (by have:=h.bg;omega)];exact h.tc,
  fun x hx=>by rw[ab _ _ _ _ _ _ (by have:=h.bg;omega)];exact h.sf x hx,
  fun x hx=>by rw[ab _ _ _ _ _ _ (by have:=h.bg;omega)];exact h.sl x hx,
  fun x hx=>by rw[ab _ _ _ _ _ _ (by have:=h.bg;omega)];exact h.ea x hx,
  fun x hx=>by
   by_cases e:x=p
   ·subst e;rw[aj];exact ax _ _ _ _ (h.eb x hx)
   ·rw[af _ _ _ _ e,ab _ _ _ _ _ _ (by have:=h.bg;omega)];exact h.eb x hx,
  fun x hx=>by rw[ab _ _ _ _ _ _ (by have:=h.bg;omega)];exact h.ee x hx,
  fun x hx=>by rw[ab _ _ _ _ _ _ (by have:=h.bg;omega)];exact h.et x hx,
  fun o=>by simpa using h.fb o,fun o=>by simpa using h.fg o⟩
theorem aB.EO (h:aB w b g n nw ct fm F L A B E T) (p:Nat) (hp:p<=n) (v:Nat):aB (w.setCell ⟨g,p*4+2,none⟩ (.int .u64 (v:Int))) b g n nw ct fm F L A B (au E p v) T:=
 ⟨h.bg,by obtain⟨cp,q⟩:=h.en;exact⟨cp,by rw[ab _ _ _ _ _ _ (by have:=h.bg;omega)];exact q⟩,by rw[ab _ _ _ _ _ _ (by have:=h.bg;omega)];exact h.tn,by rw[ab _ _ _ _ _ _ (by have:=h.bg;omega)];exact h.tm,by rw[ab _ _ _ _ _ _ (by have:=h.bg;omega)];exact h.tc,
  fun x hx=>by rw[ab _ _ _ _ _ _ (by have:=h.bg;omega)];exact h.sf x hx,
  fun x hx=>by rw[ab _ _ _ _ _ _ (by have:=h.bg;omega)];exact h.sl x hx,
  fun x hx=>by rw[ab _ _ _ _ _ _ (by have:=h.bg;omega)];exact h.ea x hx,
  fun x hx=>by rw[ab _ _ _ _ _ _ (by have:=h.bg;omega)];exact h.eb x hx,
  fun x hx=>by
   by_cases e:x=p
   ·subst e;rw[aj];exact ax _ _ _ _ (h.ee x hx)
   ·rw[af _ _ _ _ e,ab _ _ _ _ _ _ (by have:=h.bg;omega)];exact h.ee x hx,
  fun x hx=>by rw[ab _ _ _ _ _ _ (by have:=h.bg;omega)];exact h.et x hx,
  fun o=>by simpa using h.fb o,fun o=>by simpa using h.fg o⟩
theorem aB.kj (h:aB w b g n nw ct fm F L A B E T) (p:Nat) (hp:p<=n) (v:Bool):aB (w.setCell ⟨g,p*4+3,none⟩ (.bool v)) b g n nw ct fm F L A B E (au T p v):=
 ⟨h.bg,by obtain⟨cp,q⟩:=h.en;exact⟨cp,by rw[ab _ _ _ _ _ _ (by have:=h.bg;omega)];exact q⟩,by rw[ab _ _ _ _ _ _ (by have:=h.bg;omega)];exact h.tn,by rw[ab _ _ _ _ _ _ (by have:=h.bg;omega)];exact h.tm,by rw[ab _ _ _ _ _ _ (by have:=h.bg;omega)];exact h.tc,
  fun x hx=>by rw[ab _ _ _ _ _ _ (by have:=h.bg;omega)];exact h.sf x hx,
  fun x hx=>by rw[ab _ _ _ _ _ _ (by have:=h.bg;omega)];exact h.sl x hx,
  fun x hx=>by rw[ab _ _ _ _ _ _ (by have:=h.bg;omega)];exact h.ea x hx,
  fun x hx=>by rw[ab _ _ _ _ _ _ (by have:=h.bg;omega)];exact h.eb x hx,
  fun x hx=>by rw[ab _ _ _ _ _ _ (by have:=h.bg;omega)];exact h.ee x hx,
  fun x hx=>by
   by_cases e:x=p
   ·subst e;rw[aj];exact ax _ _ _ _ (h.et x hx)
   ·rw[af _ _ _ _ e,ab _ _ _ _ _ _ (by have:=h.bg;omega)];exact h.et x hx,
  fun o=>by simpa using h.fb o,fun o=>by simpa using h.fg o⟩
end
end Go.Proofs.YtjlbmmiomfpgiaaGreatDoor.Wh
namespace Go.Proofs.YtjlbmmiomfpgiaaGreatDoor.Wh
structure It where
 i:Nat
 t:Nat
def ji (S:List It):Prop:=S.Pairwise (fun a c=>a.t<=c.t)
def ins (x:It) (S:List It):List It:=S.filter (fun y=>decide (y.t<=x.t))++x::S.filter (fun y=> !decide (y.t<=x.t))
def ky (nw:Nat) (x:It):Nat:=max x.t nw
def dS (nw:Nat) (S:List It) (k:Nat):List It:=S.filter (fun x=>ky nw x==k)
def due (to:Nat) (S:List It):List It:=S.filter (fun x=>decide (x.t<=to))
def late (to:Nat) (S:List It):List It:=S.filter (fun x=> !decide (x.t<=to))
def ai (S:List It):List Nat:=S.map (fun x=>x.i+1)
section
variable {S:List It} {x:It} {p:It->Bool}
theorem ji.filter (h:ji S) (q:It->Bool):ji (S.filter q):=List.Pairwise.filter q h
theorem fG: ∀{S:List It},ji S->(∀a c:It,a.t<=c.t->p c=true->p a=true)->S.filter p++S.filter (fun y=> !p y)=S
 |[],_,_=>rfl
 |a::S,h,hp=>by
  obtain⟨h1,h2⟩:=List.pairwise_cons.1 h
  cases hq:p a with
  |true=>simp[hq,fG h2 hp]
  |false=>
   have e: ∀y∈S,p y=false:=fun y hy=>by
    cases hz:p y with
    |false=>rfl
    |true=>rw[hp a y (h1 y hy) hz] at hq;cases hq
   have e1:S.filter p=[]:=List.filter_eq_nil_iff.2 (fun y hy=>by rw[e y hy];simp)
   have e2:S.filter (fun y=> !p y)=S:=List.filter_eq_self.2 (fun y hy=>by rw[e y hy];rfl)
   simp[hq,e1,e2]
theorem ju (h:ji S) (a:Nat):S.filter (fun y=>decide (y.t<=a))++S.filter (fun y=> !decide (y.t<=a))=S:=
 fG h (fun c d hcd hd=>by simp at hd⊢;omega)
theorem yH (h:ji S) (to:Nat):due to S++late to S=S:=ju h to
theorem ji.ins (h:ji S) (x:It):ji (ins x S):=by
 refine List.pairwise_append.2 ⟨h.filter _,List.pairwise_cons.2 ⟨fun y hy=> ?_,h.filter _⟩,fun a ha c hc=> ?_⟩
 ·have:=(List.mem_filter.1 hy).2
  simp at this
  omega
 ·have h1:=(List.mem_filter.1 ha).2
  simp at h1
  rcases List.mem_cons.1 hc with rfl|hc
  ·exact h1
  ·have h2:=(List.mem_filter.1 hc).2
   simp at h2
   omega
theorem cj {y:It}:y∈Go.Proofs.YtjlbmmiomfpgiaaGreatDoor.Wh.ins x S↔y=x\/y∈S:=by
 unfold Go.Proofs.YtjlbmmiomfpgiaaGreatDoor.Wh.ins
 rw[List.mem_append,List.mem_cons,List.mem_filter,List.mem_filter]
 constructor
 ·rintro(⟨h,_⟩|h|⟨h,_⟩)
  ·exact .inr h
  ·exact .inl h
  ·exact .inr h
 ·rintro(h|h)
  ·exact .inr (.inl h)
  ·cases hd:decide (y.t<=x.t)
   ·exact .inr (.inr ⟨h,by simp⟩)
   ·exact .inl ⟨h,rfl⟩
theorem rP (h:ji S):(Go.Proofs.YtjlbmmiomfpgiaaGreatDoor.Wh.ins x S).Perm (x::S):=by
 have e:Go.Proofs.YtjlbmmiomfpgiaaGreatDoor.Wh.ins x S=S.filter (fun y=>decide (y.t<=x.t))++x::S.filter (fun y=> !decide (y.t<=x.t)):=rfl
 rw[e]
 refine List.perm_middle.trans ?_
 rw[ju h]
theorem tS (h:ji S):(Go.Proofs.YtjlbmmiomfpgiaaGreatDoor.Wh.ins x S).length=S.length+1:=by rw[(rP h).length_eq];rfl
theorem sG (h:ji S) (q:It->Bool):(Go.Proofs.YtjlbmmiomfpgiaaGreatDoor.Wh.ins x S).filter q=if q x then Go.Proofs.YtjlbmmiomfpgiaaGreatDoor.Wh.ins x (S.filter q) else S.filter q:=by
 have e:Go.Proofs.YtjlbmmiomfpgiaaGreatDoor.Wh.ins x S=S.filter (fun y=>decide (y.t<=x.t))++x::S.filter (fun y=> !decide (y.t<=x.t)):=rfl
 have e':Go.Proofs.YtjlbmmiomfpgiaaGreatDoor.Wh.ins x (S.filter q)=(S.filter q).filter (fun y=>decide (y.t<=x.t))++x::(S.filter q).filter (fun y=> !decide (y.t<=x.t)):=rfl
 have c1: ∀(a b:It->Bool),(S.filter a).filter b=(S.filter b).filter a:=fun a b=>by
  rw[List.filter_filter,List.filter_filter]
  congr 1
  funext y
  exact Bool.and_comm _ _
 rw[e,e',List.filter_append,c1 _ q,List.filter_cons,c1 _ q]
 by_cases hq:q x=true
 ·rw[if_pos hq,if_pos hq]
 ·rw[if_neg hq,if_neg hq]
  exact ju (h.filter q) _
theorem vu (h:ji S) (nw k:Nat):dS nw (Go.Proofs.YtjlbmmiomfpgiaaGreatDoor.Wh.ins x S) k=if ky nw x=k then Go.Proofs.YtjlbmmiomfpgiaaGreatDoor.Wh.ins x (dS nw S k) else dS nw S k:=by
 unfold dS
 rw[sG h]
 simp
def eY (nw:Nat) (S:List It) (lo:Nat):Nat->List It
 |0=>[]
 |m+1=>eY nw S lo m++dS nw S (lo+m)
theorem pA (h:ji S) (nw lo m:Nat):eY nw S lo m=S.filter (fun x=>decide (lo<=ky nw x)&&decide (ky nw x<lo+m)):=by
 induction m with
 |zero=>
  unfold eY
  symm
  rw[List.filter_eq_nil_iff]
  intro a ha
  simp
 |succ m ih=>
  unfold eY
  rw[ih]
  have hs:=fG (p:=fun x=>decide (ky nw x<lo+m)) (h.filter (fun x=>decide (lo<=ky nw x)&&decide (ky nw x<lo+(m+1)))) (fun a c hac hc=>decide_eq_true (by have hc:=of_decide_eq_true hc;unfold ky at*;omega))
  rw[←hs,List.filter_filter,List.filter_filter]
  congr 1
  ·congr 1
   funext y
   rw[Bool.eq_iff_iff]
   simp
   omega
  ·unfold dS
   congr 1
   funext y
   rw[Bool.eq_iff_iff]
   simp
   omega
def many (nw:Nat) (S:List It) (ts:List Nat):List It:=ts.flatMap (dS nw S)
theorem pI (h:ji S) (nw:Nat): ∀(ts:List Nat),ts.Pairwise (· < ·)->many nw S ts=S.filter (fun x=>decide (ky nw x∈ts))
 |[],_=>by
  symm
  rw[show many nw S []=[] from rfl,List.filter_eq_nil_iff]
  intro a ha
  simp
 |t::ts,hp=>by
  obtain⟨h1,h2⟩:=List.pairwise_cons.1 hp
  have e:many nw S (t::ts)=dS nw S t++many nw S ts:=rfl
  rw[e,pI h nw ts h2]
  have hs:=fG (p:=fun x=>decide (ky nw x<=t)) (h.filter (fun x=>decide (ky nw x∈t::ts))) (fun a c hac hc=>decide_eq_true (by have hc:=of_decide_eq_true hc;unfold ky at*;omega))
  rw[←hs,List.filter_filter,List.filter_filter]
  congr 1
  ·unfold dS
   congr 1
   funext y
   rw[Bool.eq_iff_iff]
   simp
   constructor
   ·rintro rfl;exact⟨i8 _,.inl rfl⟩
   ·rintro⟨q1,q2|q2⟩
    ·exact q2
    ·have:=h1 _ q2;omega
  ·congr 1
   funext y
   rw[Bool.eq_iff_iff]
   simp
   constructor
   ·intro q;have:=h1 _ q;exact⟨by omega,.inr q⟩
   ·rintro⟨q1,q2|q2⟩
    ·omega
    ·exact q2
theorem cC (S:List It):(ai S).length=S.length:=by simp[ai]
theorem dc (S T:List It):ai (S++T)=ai S++ai T:=by simp[ai]
theorem bX {q:Nat}:q∈ai S↔ ∃y∈S,y.i+1=q:=by simp[ai]
theorem oz: ∀q∈ai S,q≠0:=fun q hq=>by obtain⟨y,_,rfl⟩:=bX.1 hq;omega
end
def me (A B:Nat->Nat):Nat->List Nat->Nat->Prop
 |_,[],_=>True
 |p,x::xs,q=>A x=p/\B x=xs.headD q/\me A B x xs q
structure lO (A B:Nat->Nat) (f l:Nat) (xs:List Nat):Prop where
 f:f=xs.headD 0
 l:l=xs.getLastD 0
 s:me A B 0 xs 0
def dL (f:Nat->Nat) (i x:Nat):Nat->Nat:=if i=0 then f else au f i x
section
variable {A B A' B':Nat->Nat} {xs ys:List Nat} {p q x:Nat}
theorem gT (xs ys:List Nat) (d:Nat):(xs++ys).getLastD d=ys.getLastD (xs.getLastD d):=by
 induction ys generalizing xs with
 |nil=>simp
 |cons a ys ih=>simp[List.getLastD_eq_getLast?,List.getLast?_append]
theorem qi (xs ys:List Nat) (d:Nat):(xs++ys).headD d=xs.headD (ys.headD d):=by cases xs<;>simp
theorem me.append: ∀{xs:List Nat} {p:Nat},me A B p (xs++ys) q↔me A B p xs (ys.headD q)/\me A B (xs.getLastD p) ys q
 |[],p=>by simp[me]
 |x::xs,p=>by
  show(A x=p/\B x=(xs++ys).headD q/\me A B x (xs++ys) q)↔(A x=p/\B x=xs.headD (ys.headD q)/\me A B x xs (ys.headD q))/\me A B ((x::xs).getLastD p) ys q
  rw[qi,me.append (xs:=xs),show(x::xs).getLastD p=xs.getLastD x by cases xs<;>simp[List.getLastD]]
  constructor
  ·rintro⟨a,b,c,d⟩;exact⟨⟨a,b,c⟩,d⟩
  ·rintro⟨⟨a,b,c⟩,d⟩;exact⟨a,b,c,d⟩
theorem me.congr: ∀{xs:List Nat} {p:Nat},me A B p xs q->(∀x∈xs,A' x=A x/\B' x=B x)->me A' B' p xs q
 |[],_,_,_=>trivial
 |x::xs,p,⟨a,b,c⟩,h=>by
  have hx:=h x (by simp)
  exact⟨hx.1.trans a,hx.2.trans b,c.congr (fun y hy=>h y (by simp[hy]))⟩
theorem xa {xs:List Nat} (h:xs≠[]):xs.getLastD 0∈xs:=by
 rcases xs.eq_nil_or_concat with rfl|⟨ys,y,rfl⟩
 ·exact absurd rfl h
 ·simp
theorem me.toEnd: ∀{xs:List Nat} {p q q':Nat},me A B p xs q->xs.Nodup->(∀y∈xs,y≠0)->me A (dL B (xs.getLastD 0) q') p xs q'
 |[],_,_,_,_,_,_=>trivial
 |[x],p,q,q',⟨a,b,_⟩,hn,h0=>by
  refine⟨a,?_,trivial⟩
  show dL B x q' x=q'
  unfold dL
  rw[if_neg (h0 x (by simp)),aj]
 |x::y::xs,p,q,q',⟨a,b,c⟩,hn,h0=>by
  obtain⟨h1,h2⟩:=List.nodup_cons.1 hn
  refine⟨a,?_,?_⟩
  ·show dL B ((x::y::xs).getLastD 0) q' x=y
   unfold dL
   split
   ·exact b
   ·rw[af]
    ·exact b
    ·intro e
     have hm:(x::y::xs).getLastD 0∈y::xs:=by
      rw[show(x::y::xs).getLastD 0=(y::xs).getLastD 0 by simp[List.getLastD]]
      exact xa (by simp)
     rw[←e] at hm
     exact h1 hm
  ·have:=me.toEnd (q':=q') c h2 (fun z hz=>h0 z (by simp[hz]))
   rwa [show(x::y::xs).getLastD 0=(y::xs).getLastD 0 by simp[List.getLastD]]
theorem me.Cl {xs:List Nat} {p p' q:Nat} (h:me A B p xs q) (hn:xs.Nodup) (h0: ∀y∈xs,y≠0):me (dL A (xs.headD 0) p') B p' xs q:=by
 match xs,h with
 |[],_=>trivial
 |x::xs,⟨a,b,c⟩=>
  obtain⟨h1,h2⟩:=List.nodup_cons.1 hn
  have e:dL A ((x::xs).headD 0) p'=au A x p':=by
   show dL A x p'=_
   unfold dL
   rw[if_neg (h0 x (by simp))]
  rw[e]
  refine⟨aj _ _ _,b,c.congr (fun y hy=>⟨af _ _ _ _ (fun e=>h1 (by rw[←e];exact hy)),rfl⟩)⟩
theorem eu (f:Nat->Nat) (i v j:Nat) (h:j≠i):dL f i v j=f j:=by
 unfold dL
 split
 ·rfl
 ·exact af _ _ _ _ h
theorem nP {xs:List Nat} (h:xs.getLastD 0≠0):xs.getLastD 0∈xs:=by
 rcases xs.eq_nil_or_concat with rfl|⟨ys,y,rfl⟩
 ·exact absurd rfl h
 ·simp
theorem head_mem {xs:List Nat} (h:xs.headD 0≠0):xs.headD 0∈xs:=by
 cases xs with
 |nil=>exact absurd rfl h
 |cons y ys=>simp
theorem last_zero {xs:List Nat} (h0: ∀y∈xs,y≠0) (h:xs.getLastD 0=0):xs=[]:=by
 rcases xs.eq_nil_or_concat with rfl|⟨ys,y,rfl⟩
 ·rfl
 ·simp at h;exact absurd h (h0 y (by simp))
theorem oZ {xs:List Nat} (h0: ∀y∈xs,y≠0) (h:xs.headD 0=0):xs=[]:=by
 cases xs with
 |nil=>rfl
 |cons y ys=>exact absurd h (h0 y (by simp))
variable {P Q:List Nat} {f l:Nat}
theorem lO.tie (h:lO A B f l (P++Q)) (hn:(P++Q).Nodup) (h0: ∀y∈P++Q,y≠0) (hx:x ∉ P++Q) (hx0:x≠0):
  lO (dL (au A x (P.getLastD 0)) (Q.headD 0) x) (dL (au B x (Q.headD 0)) (P.getLastD 0) x) (if P.getLastD 0=0 then x else f) (if Q.headD 0=0 then x else l) (P++x::Q):=by
 obtain⟨hnP,hnQ,hd⟩:=List.nodup_append.1 hn
 have hP0: ∀y∈P,y≠0:=fun y hy=>h0 y (by simp[hy])
 have hQ0: ∀y∈Q,y≠0:=fun y hy=>h0 y (by simp[hy])
 have hxP:x ∉ P:=fun q=>hx (by simp[q])
 have hxQ:x ∉ Q:=fun q=>hx (by simp[q])
 have hlP:P.getLastD 0≠0->P.getLastD 0∈P:=nP
 have hhQ:Q.headD 0≠0->Q.headD 0∈Q:=head_mem
 obtain⟨s1,s2⟩:=me.append.1 h.s
 refine⟨?_,?_,me.append.2 ⟨?_,?_⟩⟩
 ·split
  ·rename_i e;rw[last_zero hP0 e];rfl
  ·rename_i e
   rw[h.f]
   cases P with
   |nil=>exact absurd rfl e
   |cons y ys=>rfl
 ·rw[gT]
  split
  ·rename_i e;rw[oZ hQ0 e];rfl
  ·rename_i e
   rw[h.l,gT]
   cases Q with
   |nil=>exact absurd rfl e
   |cons y ys=>simp[List.getLastD]
 ·refine(s1.toEnd (q':=x) hnP hP0).congr (fun y hy=>⟨?_,?_⟩)
  ·rw[eu _ _ _ _ (fun e=> ?_),af _ _ _ _ (fun e=>hxP (by rw[←e];exact hy))]
   by_cases hz:Q.headD 0=0
   ·exact hP0 y hy (e.trans hz)
   ·exact hd y hy _ (hhQ hz) e
  ·unfold dL
   split
   ·exact af _ _ _ _ (fun e=>hxP (by rw[←e];exact hy))
   ·unfold au
    by_cases e:y=P.getLastD 0
    ·rw[if_pos e,if_pos e]
    ·rw[if_neg e,if_neg e,if_neg (fun e=>hxP (by rw[←e];exact hy))]
 ·refine⟨?_,?_,?_⟩
  ·rw[eu _ _ _ _ (fun e=> ?_),aj]
   by_cases hz:Q.headD 0=0
   ·exact hx0 (e.trans hz)
   ·exact hxQ (by rw[e];exact hhQ hz)
  ·rw[eu _ _ _ _ (fun e=> ?_),aj]
   by_cases hz:P.getLastD 0=0
   ·exact hx0 (e.trans hz)
   ·exact hxP (by rw[e];exact hlP hz)
  ·refine(s2.Cl (p':=x) hnQ hQ0).congr (fun y hy=>⟨?_,?_⟩)
   ·unfold dL
    split
    ·exact af _ _ _ _ (fun e=>hxQ (by rw[←e];exact hy))
    ·unfold au
     by_cases e:y=Q.headD 0
     ·rw[if_pos e,if_pos e]
     ·rw[if_neg e,if_neg e,if_neg (fun e=>hxQ (by rw[←e];exact hy))]
   ·rw[eu _ _ _ _ (fun e=> ?_),af _ _ _ _ (fun e=>hxQ (by rw[←e];exact hy))]
    by_cases hz:P.getLastD 0=0
    ·exact hQ0 y hy (e.trans hz)
    ·exact hd _ (hlP hz) y hy e.symm
theorem lO.Ha (h:lO A B f l (P++x::Q)):A x=P.getLastD 0/\B x=Q.headD 0:=by
 obtain⟨_,s2⟩:=me.append.1 h.s
 exact⟨s2.1,s2.2.1⟩
theorem lO.congr (h:lO A B f l xs) (hc: ∀x∈xs,A' x=A x/\B' x=B x):lO A' B' f l xs:=⟨h.f,h.l,h.s.congr hc⟩
theorem lO.nil:lO A B 0 0 []:=⟨rfl,rfl,trivial⟩
end
open Go.RowKit
open Go.Maps (Keyed)
theorem sO:Keyed Tryz.prog 25:=Go.Maps.int_keyed Tryz.underlying25
theorem tight {H:Type} {P:Program} {k:TypeId} {R:Value->Option (DataW H×List MemPlace)} {w:World} {b n:Nat} {D:DataW H} (h:w.ownsMap P k R b n D) {s:Nat} (hs:Maps.size D=s):w.ownsMap P k R b s D:=by
 obtain⟨es,clock,hb,F,_,rfl⟩:=h
 exact⟨es,clock,hb,F,by rw[←hs];simp[Maps.size,DataW.length_sorted],rfl⟩
def RL:Value->Option (DataW Unit×List MemPlace)
 | .agg ⟨[.int .i64 a,.int .i64 c]⟩=>some (.agg [.lit (.int .i64 a),.lit (.int .i64 c)],[])
 |_=>none
theorem DN (a c:Int):RL (.agg #[.int .i64 a,.int .i64 c])=some (.agg [.lit (.int .i64 a),.lit (.int .i64 c)],[]):=rfl
theorem An {v:Value} {z:DataW Unit×List MemPlace} (h:RL v=some z): ∃a c,v= .agg #[.int .i64 a,.int .i64 c]/\z=(.agg [.lit (.int .i64 a),.lit (.int .i64 c)],[]):=by
 unfold RL at h
 split at h
 ·rename_i a c
  exact⟨a,c,rfl,by simpa using h.symm⟩
 ·cases h
def dv (w:World) (mb:Nat) (f:Int->Option (Nat×Nat)) (s:Nat):Prop:=
 ∃D:DataW Unit,w.ownsMap Tryz.prog 25 RL mb s D/\(∀i,Maps.has D (.int .u64 i)=(f i).isSome)/\(∀i c zd,f i=some c->D.atKey (.int .u64 i) zd= .agg [.lit (.int .i64 (c.1:Int)),.lit (.int .i64 (c.2:Int))])/\Maps.size D=s
def cS (f:Int->Option (Nat×Nat)) (i:Int) (o:Option (Nat×Nat)):Int->Option (Nat×Nat):=fun j=>if j=i then o else f j
section
variable {w w':World} {mb s:Nat} {f:Int->Option (Nat×Nat)}
theorem dv.made (w:World):dv (w.alloc (.map #[] 0)) w.heap.size (fun _=>none) 0:=
 ⟨.map [],World.ownsMap_made w _ _ _,fun _=>rfl,fun i c zd h=>(by cases h),rfl⟩
theorem dv.lt (h:dv w mb f s):mb<w.heap.size:=by obtain⟨D,h,_⟩:=h;exact h.lt
theorem dv.block (h:dv w mb f s) (hb:w'.heap[mb]? =w.heap[mb]?):dv w' mb f s:=by
 obtain⟨D,⟨es,clock,h0,h1⟩,h2⟩:=h
 exact⟨D,⟨es,clock,by rw[hb];exact h0,h1⟩,h2⟩
theorem Au (w:World):(zeroValue 155).run Tryz.prog w= .ok (.agg #[.int .i64 0,.int .i64 0]) w:=by kernel_rfl
theorem sy (i:Int) (hi:(Lit.int .u64 i).wf=true):keyOf Tryz.prog 25 (.int .u64 i)=some (.int .u64 i):=Go.Maps.keyOf_int_mk Tryz.underlying25 hi
theorem dv.look (h:dv w mb f s) (i:Int) (hi:(Lit.int .u64 i).wf=true):
  (Instr.lookup 152 (.map (some mb)) (.int .u64 i) false).run Tryz.prog w= .ok (.agg #[.int .i64 (((f i).getD (0,0)).1:Int),.int .i64 (((f i).getD (0,0)).2:Int)]) w:=by
 obtain⟨D,h1,h2,h3,_⟩:=h
 obtain⟨v,ps,hr,hv⟩:=h1.lookup sO (t:=152) (e:=155) Tryz.underlying152 (Au w) (DN 0 0) (sy i hi)
 rw[hr]
 obtain⟨a,c,rfl,hz⟩:=An hv
 have hc':=congrArg Prod.fst hz
 simp only at hc'
 cases hf:f i with
 |none=>
  have hn:Maps.has D (.int .u64 i)=false:=by rw[h2 i,hf];rfl
  rw[Maps.atKey_of_not_has hn] at hc'
  simp at hc'
  rw[←hc'.1,←hc'.2]
  rfl
 |some c'=>
  rw[h3 i c' _ hf] at hc'
  simp at hc'
  rw[←hc'.1,←hc'.2]
  rfl
theorem gH {i j:Int} (h:i≠j):(Lit.int .u64 i)≠(Lit.int .u64 j):=fun e=>h (by injection e)
theorem iN (i:Int):WideAt.IsKeyLit (Lit.int .u64 i):=trivial
theorem cN {ops:Array Oper} {rest:List Oper} {o:Oper} {a:Act} {Q:Exit->Act->World->Prop} (hg:o.guard=none) (m x:Operand) (hop:o.op=Op.call {callee:=Callee.builtin Builtin.delete,args:= #[m,x],argTypes:= #[152,25]})
  (h:dv w mb f s) (i:Int) (hi:(Lit.int .u64 i).wf=true) (hm:a.eval m= .map (some mb)) (hx:a.eval x= .int .u64 i)
  (hK: ∀w',dv w' mb (cS f i none) (if (f i).isSome then s-1 else s)->w.grownBy w' (some mb)->wpList Tryz.prog ops Q rest (a.put o.dst (.tuple #[])) w'):
  wpList Tryz.prog ops Q (o::rest) a w:=by
 obtain⟨D,h1,h2,h3,h4⟩:=h
 refine wpList_delete_own w hg m x 152 25 hop 155 sO Tryz.underlying152 RL mb s D hm h1 (.int .u64 i) (.int .u64 i) hx (sy i hi) ?_
 intro w' q1 q2
 have hsz:Maps.size (D.del (.int .u64 i))=if (f i).isSome then s-1 else s:=by
  have:=Maps.size_del (k:=Lit.int .u64 i) (h1.tidy sO)
  rw[h2 i,h4] at this
  split<;>simp_all<;>omega
 refine hK w' ⟨_,tight q1 hsz,fun j=> ?_,fun j c' zd hj=> ?_,hsz⟩ (World.mapTurned.grown q2)
 ·unfold cS
  by_cases e:j=i
  ·subst e
   rw[if_pos rfl,Maps.has_del_same]
   rfl
  ·rw[if_neg e,Maps.has_del_other (gH e),h2 j]
 ·unfold cS at hj
  by_cases e:j=i
  ·subst e
   rw[if_pos rfl] at hj
   cases hj
  ·rw[if_neg e] at hj
   rw[Maps.atKey_del_other (gH e)]
   exact h3 j c' zd hj
end
end Go.Proofs.YtjlbmmiomfpgiaaGreatDoor.Wh
namespace Go.Proofs.YtjlbmmiomfpgiaaGreatDoor.Wh
structure Inv (n nw ct:Nat) (F L:Nat->Nat) (fr:Int->Option (Nat×Nat)) (A B E:Nat->Nat) (T:Nat->Bool) (S:List It):Prop where
 srt:ji S
 nd:(S.map (·.i)).Nodup
 lt: ∀x∈S,x.i<n
 tm: ∀x∈S,x.t<18446744073709551616
 hw:nw<18446744073709551616
 hc:ct=S.length
 slot: ∀s,s<64->lO A B (F s) (L s) (ai (dS nw S (nw/64*64+s)))
 ft: ∀k:Nat,nw/64<k/64->(fr (k:Int)=none/\dS nw S k=[])\/(∃f l:Nat,fr (k:Int)=some (f,l)/\dS nw S k≠[]/\lO A B f l (ai (dS nw S k)))
 out: ∀i:Int,(fr i).isSome=true-> ∃k:Nat,i=(k:Int)/\nw/64<k/64
 lR: ∀x∈S,T (x.i+1)=true/\E (x.i+1)=x.t
 zer: ∀p,p<=n->(∀x∈S,x.i+1≠p)->T p=false/\E p=0
def ez (nw:Nat) (F L:Nat->Nat) (fr:Int->Option (Nat×Nat)) (k:Nat):Nat×Nat:=if k/64=nw/64 then(F (k%64),L (k%64)) else(fr (k:Int)).getD (0,0)
def ir (nw:Nat) (F:Nat->Nat) (k f:Nat):Nat->Nat:=if k/64=nw/64 then au F (k%64) f else F
def iZ (nw:Nat) (fr:Int->Option (Nat×Nat)) (k f l:Nat):Int->Option (Nat×Nat):=if k/64=nw/64 then fr else cS fr k (if f=0 then none else some (f,l))
section
variable {n nw ct:Nat} {F L:Nat->Nat} {fr:Int->Option (Nat×Nat)} {A B E A' B' E':Nat->Nat} {T T':Nat->Bool} {S S':List It}
theorem Inv.list (h:Inv n nw ct F L fr A B E T S) (k:Nat) (hk:nw<=k):lO A B (ez nw F L fr k).1 (ez nw F L fr k).2 (ai (dS nw S k)):=by
 unfold ez
 by_cases e:k/64=nw/64
 ·rw[if_pos e]
  have:=h.slot (k%64) (Nat.mod_lt _ (by decide))
  rwa [show nw/64*64+k%64=k by omega] at this
 ·rw[if_neg e]
  rcases h.ft k (by omega) with ⟨e1,e2⟩|⟨f,l,e1,_,e2⟩
  ·rw[e1,e2];exact lO.nil
  ·rw[e1];exact e2
theorem yM (h:(S.map (·.i)).Nodup) {x y:It} (hx:x∈S) (hy:y∈S) (e:x.i=y.i):x=y:=by
 induction S with
 |nil=>cases hx
 |cons a S ih=>
  obtain⟨h1,h2⟩:=List.nodup_cons.1 h
  rcases List.mem_cons.1 hx with rfl|hx'<;>rcases List.mem_cons.1 hy with rfl|hy'
  ·rfl
  ·exact absurd (List.mem_map.2 ⟨y,hy',e.symm⟩) h1
  ·exact absurd (List.mem_map.2 ⟨x,hx',e⟩) h1
  ·exact ih h2 hx' hy'
theorem da {k:Nat} {x:It}:x∈dS nw S k↔x∈S/\ky nw x=k:=by
 unfold dS
 rw[List.mem_filter]
 simp
theorem jB (h:(S.map (·.i)).Nodup):(ai S).Nodup:=by
 unfold ai
 induction S with
 |nil=>exact List.nodup_nil
 |cons a S ih=>
  obtain⟨h1,h2⟩:=List.nodup_cons.1 h
  rw[List.map_cons,List.nodup_cons]
  refine⟨fun q=>h1 ?_,ih h2⟩
  obtain⟨y,hy,e⟩:=List.mem_map.1 q
  exact List.mem_map.2 ⟨y,hy,by show y.i=a.i;omega⟩
theorem nO {q:It->Bool} (h:(S.map (·.i)).Nodup):((S.filter q).map (·.i)).Nodup:=h.sublist (List.Sublist.map _ List.filter_sublist)
theorem Inv.keep (h:Inv n nw ct F L fr A B E T S) (k f l:Nat) (hk:nw<=k) (hg: ∀j,j≠k->dS nw S' j=dS nw S j)
  (hAB: ∀y∈S,ky nw y≠k->A' (y.i+1)=A (y.i+1)/\B' (y.i+1)=B (y.i+1)) (hl:lO A' B' f l (ai (dS nw S' k))):
  (∀s,s<64->lO A' B' (ir nw F k f s) (ir nw L k l s) (ai (dS nw S' (nw/64*64+s))))/\
  (∀j:Nat,nw/64<j/64->(iZ nw fr k f l (j:Int)=none/\dS nw S' j=[])\/(∃f' l':Nat,iZ nw fr k f l (j:Int)=some (f',l')/\dS nw S' j≠[]/\lO A' B' f' l' (ai (dS nw S' j))))/\
  (∀i:Int,(iZ nw fr k f l i).isSome=true-> ∃k:Nat,i=(k:Int)/\nw/64<k/64):=by
 have hoth: ∀j,j≠k-> ∀f l,lO A B f l (ai (dS nw S j))->lO A' B' f l (ai (dS nw S' j)):=fun j hj f l hh=>by
  rw[hg j hj]
  refine hh.congr (fun p hp=> ?_)
  obtain⟨y,hy,rfl⟩:=bX.1 hp
  obtain⟨hy1,hy2⟩:=da.1 hy
  exact hAB y hy1 (by omega)
 refine⟨fun s hs=> ?_,fun j hj=> ?_,fun i hi=> ?_⟩
 ·unfold ir
  by_cases e:k/64=nw/64
  ·rw[if_pos e,if_pos e]
   by_cases e2:s=k%64
   ·subst e2
    rw[aj,aj,show nw/64*64+k%64=k by omega]
    exact hl
   ·rw[af _ _ _ _ e2,af _ _ _ _ e2]
    exact hoth _ (by omega) _ _ (h.slot s hs)
  ·rw[if_neg e,if_neg e]
   exact hoth _ (by omega) _ _ (h.slot s hs)
 ·unfold iZ
  by_cases e:k/64=nw/64
  ·rw[if_pos e]
   rcases h.ft j hj with ⟨e1,e2⟩|⟨f',l',e1,e2,e3⟩
   ·exact .inl ⟨e1,by rw[hg j (by omega)];exact e2⟩
   ·exact .inr ⟨f',l',e1,by rw[hg j (by omega)];exact e2,hoth j (by omega) _ _ e3⟩
  ·rw[if_neg e]
   by_cases e4:j=k
   ·subst e4
    unfold cS
    rw[if_pos rfl]
    by_cases e5:f=0
    ·rw[if_pos e5]
     have e6:=oZ (xs:=ai (dS nw S' j)) oz (hl.f.symm.trans e5)
     exact .inl ⟨rfl,by simpa [ai] using e6⟩
    ·rw[if_neg e5]
     refine .inr ⟨f,l,rfl,fun e6=>e5 ?_,hl⟩
     rw[hl.f,e6];rfl
   ·unfold cS
    rw[if_neg (by omega)]
    rcases h.ft j hj with ⟨e1,e2⟩|⟨f',l',e1,e2,e3⟩
    ·exact .inl ⟨e1,by rw[hg j e4];exact e2⟩
    ·exact .inr ⟨f',l',e1,by rw[hg j e4];exact e2,hoth j e4 _ _ e3⟩
 ·unfold iZ at hi
  by_cases e:k/64=nw/64
  ·rw[if_pos e] at hi;exact h.out i hi
  ·rw[if_neg e] at hi
   unfold cS at hi
   by_cases e4:i=k
   ·exact⟨k,e4,by omega⟩
   ·rw[if_neg e4] at hi;exact h.out i hi
def pre (nw:Nat) (S:List It) (t:Nat):List Nat:=ai ((dS nw S (max t nw)).filter (fun y=>decide (y.t<=t)))
def l9 (nw:Nat) (S:List It) (t:Nat):List Nat:=ai ((dS nw S (max t nw)).filter (fun y=> !decide (y.t<=t)))
theorem Inv.yh (h:Inv n nw ct F L fr A B E T S) (t:Nat):ai (dS nw S (max t nw))=pre nw S t++l9 nw S t:=by
 unfold pre l9
 rw[←dc,ju (S:=dS nw S (max t nw)) (h.srt.filter _)]
theorem Inv.set (h:Inv n nw ct F L fr A B E T S) (id t:Nat) (hid:id<n) (hT:T (id+1)=false) (ht:t<18446744073709551616):
  Inv n nw (ct+1) (ir nw F (max t nw) (if (pre nw S t).getLastD 0=0 then id+1 else(ez nw F L fr (max t nw)).1)) (ir nw L (max t nw) (if (l9 nw S t).headD 0=0 then id+1 else(ez nw F L fr (max t nw)).2))
   (iZ nw fr (max t nw) (if (pre nw S t).getLastD 0=0 then id+1 else(ez nw F L fr (max t nw)).1) (if (l9 nw S t).headD 0=0 then id+1 else(ez nw F L fr (max t nw)).2))
   (dL (au A (id+1) ((pre nw S t).getLastD 0)) ((l9 nw S t).headD 0) (id+1)) (dL (au B (id+1) ((l9 nw S t).headD 0)) ((pre nw S t).getLastD 0) (id+1)) (au E (id+1) t) (au T (id+1) true) (ins ⟨id,t⟩ S):=by
 have hno: ∀y∈S,y.i≠id:=fun y hy e=>by
  have:=(h.lR y hy).1
  rw[e,hT] at this
  cases this
 have hspl:=h.yh t
 have hlst:=h.list (max t nw) (Nat.le_max_right _ _)
 rw[hspl] at hlst
 have hsub: ∀p∈pre nw S t++l9 nw S t,∃y∈S,ky nw y=max t nw/\y.i+1=p:=fun p hp=>by
  rw[←hspl] at hp
  obtain⟨y,hy,rfl⟩:=bX.1 hp
  exact⟨y,(da.1 hy).1,(da.1 hy).2,rfl⟩
 have hnew:id+1 ∉ pre nw S t++l9 nw S t:=fun q=>by
  obtain⟨y,hy,_,e⟩:=hsub _ q
  exact hno y hy (by omega)
 have hnd:(pre nw S t++l9 nw S t).Nodup:=by rw[←hspl];exact jB (nO h.nd)
 have h0: ∀y∈pre nw S t++l9 nw S t,y≠0:=fun y hy=>by obtain⟨z,_,_,rfl⟩:=hsub y hy;omega
 have hL:=hlst.tie (x:=id+1) hnd h0 hnew (by omega)
 have hg:dS nw (ins ⟨id,t⟩ S) (max t nw)=ins ⟨id,t⟩ (dS nw S (max t nw)):=by
  rw[vu h.srt]
  exact if_pos rfl
 have hgl:ai (dS nw (ins ⟨id,t⟩ S) (max t nw))=pre nw S t++(id+1)::l9 nw S t:=by
  rw[hg]
  unfold ins pre l9
  rw[dc]
  rfl
 rw[←hgl] at hL
 have hout: ∀y∈S,ky nw y≠max t nw->y.i+1 ∉ pre nw S t++l9 nw S t:=fun y hy hk q=>by
  obtain⟨z,hz,hzk,e⟩:=hsub _ q
  have:z=y:=yM h.nd hz hy (by omega)
  exact hk (by rw[←this];exact hzk)
 have K:=h.keep (S':=ins ⟨id,t⟩ S) (max t nw) _ _ (Nat.le_max_right _ _) (fun j hj=>by
  rw[vu h.srt]
  exact if_neg (fun e=>hj e.symm)) (fun y hy hk=>by
   have h1:=hout y hy hk
   have h2:=hno y hy
   have h3:y.i+1≠(l9 nw S t).headD 0:=fun e=>by
    by_cases hz:(l9 nw S t).headD 0=0
    ·omega
    ·exact h1 (by rw[e];exact List.mem_append_right _ (head_mem hz))
   have h4:y.i+1≠(pre nw S t).getLastD 0:=fun e=>by
    by_cases hz:(pre nw S t).getLastD 0=0
    ·omega
    ·exact h1 (by rw[e];exact List.mem_append_left _ (nP hz))
   rw[eu _ _ _ _ h3,eu _ _ _ _ h4,af _ _ _ _ (by omega),af _ _ _ _ (by omega)]
   exact⟨rfl,rfl⟩) hL
 refine⟨h.srt.ins _,?_,?_,?_,h.hw,?_,K.1,K.2.1,K.2.2,?_,?_⟩
 ·refine((rP (x:=⟨id,t⟩) h.srt).map (·.i)).nodup_iff.2 ?_
  rw[List.map_cons,List.nodup_cons]
  refine⟨fun q=> ?_,h.nd⟩
  obtain⟨y,hy,e⟩:=List.mem_map.1 q
  exact hno y hy e
 ·intro x hx
  rcases cj.1 hx with rfl|hx
  ·exact hid
  ·exact h.lt x hx
 ·intro x hx
  rcases cj.1 hx with rfl|hx
  ·exact ht
  ·exact h.tm x hx
 ·rw[tS h.srt,h.hc]
 ·intro x hx
  rcases cj.1 hx with rfl|hx
  ·exact⟨aj _ _ _,aj _ _ _⟩
  ·have:=hno x hx
   rw[af _ _ _ _ (by omega),af _ _ _ _ (by omega)]
   exact h.lR x hx
 ·intro p hp hq
  have h1:=hq ⟨id,t⟩ (cj.2 (.inl rfl))
  have h2:p≠id+1:=fun e=>h1 e.symm
  rw[af _ _ _ _ h2,af _ _ _ _ h2]
  exact h.zer p hp (fun x hx=>hq x (cj.2 (.inr hx)))
theorem jw {to:Nat} {x:It}:x∈late to S↔x∈S/\to<x.t:=by
 unfold late
 rw[List.mem_filter]
 simp
theorem ph {to:Nat} {x:It}:x∈due to S↔x∈S/\x.t<=to:=by
 unfold due
 rw[List.mem_filter]
 simp
theorem jE {to:Nat} (h:nw<=to) (j:Nat):dS to (late to S) j=if j<=to then [] else dS nw S j:=by
 unfold dS late
 rw[List.filter_filter]
 by_cases hj:j<=to
 ·rw[if_pos hj,List.filter_eq_nil_iff]
  intro a ha
  simp[ky]
  omega
 ·rw[if_neg hj]
  congr 1
  funext y
  rw[Bool.eq_iff_iff]
  simp[ky]
  omega
theorem Inv.Hu (h:Inv n nw ct F L fr A B E T S) {F' L':Nat->Nat} {fr':Int->Option (Nat×Nat)} (to:Nat) (hto:nw<=to) (ht:to<18446744073709551616)
  (hs: ∀s,s<64->if to/64*64+s<=to then F' s=0/\L' s=0 else F' s=(ez nw F L fr (to/64*64+s)).1/\L' s=(ez nw F L fr (to/64*64+s)).2)
  (hf: ∀k:Nat,to/64<k/64->fr' (k:Int)=fr (k:Int)) (ho: ∀i:Int,(fr' i).isSome=true-> ∃k:Nat,i=(k:Int)/\to/64<k/64)
  (hAB: ∀y∈S,to<y.t->A' (y.i+1)=A (y.i+1)/\B' (y.i+1)=B (y.i+1)/\E' (y.i+1)=E (y.i+1)/\T' (y.i+1)=T (y.i+1))
  (hz: ∀p,p<=n->(∀y∈S,to<y.t->y.i+1≠p)->T' p=false/\E' p=0):
  Inv n to (late to S).length F' L' fr' A' B' E' T' (late to S):=by
 have hc: ∀j f l,to<j->lO A B f l (ai (dS nw S j))->lO A' B' f l (ai (dS to (late to S) j)):=fun j f l hj hl=>by
  rw[jE hto,if_neg (by omega)]
  refine hl.congr (fun p hp=> ?_)
  obtain⟨y,hy,rfl⟩:=bX.1 hp
  obtain⟨h1,h2⟩:=da.1 hy
  have:=hAB y h1 (by unfold ky at h2;omega)
  exact⟨this.1,this.2.1⟩
 refine⟨h.srt.filter _,nO h.nd,fun x hx=>h.lt x (jw.1 hx).1,fun x hx=>h.tm x (jw.1 hx).1,ht,rfl,fun s hs'=> ?_,fun k hk=> ?_,ho,fun x hx=> ?_,fun p hp hq=> ?_⟩
 ·have:=hs s hs'
  by_cases e:to/64*64+s<=to
  ·rw[if_pos e] at this
   rw[this.1,this.2,jE hto,if_pos e]
   exact lO.nil
  ·rw[if_neg e] at this
   rw[this.1,this.2]
   exact hc _ _ _ (by omega) (h.list _ (by omega))
 ·rw[hf k hk,jE hto,if_neg (by omega)]
  rcases h.ft k (by omega) with ⟨e1,e2⟩|⟨f,l,e1,e2,e3⟩
  ·exact .inl ⟨e1,e2⟩
  ·refine .inr ⟨f,l,e1,e2,?_⟩
   have:=hc k f l (by omega) e3
   rwa [jE hto,if_neg (by omega)] at this
 ·obtain⟨h1,h2⟩:=jw.1 hx
  have:=hAB x h1 h2
  rw[this.2.2.2,this.2.2.1]
  exact h.lR x h1
 ·exact hz p hp (fun y hy hy2=>hq y (jw.2 ⟨hy,hy2⟩))
end
open Go.RowKit
attribute [local go_sem ↓] Go.wp_at_zero Go.wp_at_succ
def iF:Value:= .agg #[.int .i64 0,.int .i64 0,.int .u64 0,.bool false]
def bo (n:Nat):Array Value:=madeCells iF.cells ((n+1)*4)
theorem xB:(Tryz.prog.info? 173).map (fun i=>(i.zero,i.size,i.bytes))=some (some iF,4,32):=by kernel_rfl
def zeroCells:Array Value:= #[.int .u64 0]++(Array.replicate 128 (.int .i64 0)++ #[.map none,.slice none 0 0,.int .i64 0])
theorem fy:zeroCells.size=132:=by unfold zeroCells;simp
theorem Eu (w:World):(zeroValue 158).run Tryz.prog w= .ok (.agg zeroCells) w:=by kernel_rfl
theorem aD (w:World) (c:Array Value) (t:TypeId) (i:Nat):(w.alloc (.cells c t)).cell? ⟨w.heap.size,i,none⟩=c[i]? :=by
 unfold World.cell?
 simp only[(MapKept.heap_alloc w (.cells c t)).1]
 rfl
theorem aI (w:World) (c:Array Value) (t:TypeId) (i:Nat):(w.alloc (.cells c t)).frozen? ⟨w.heap.size,i,none⟩=false:=by
 unfold World.frozen?
 simp only[(MapKept.heap_alloc w (.cells c t)).1]
 simp
theorem j4 (n k:Nat) (h:k<(n+1)*4):(bo n)[k]? =some ((#[Value.int .i64 0,.int .i64 0,.int .u64 0,.bool false]:Array Value)[k%4]!):=by
 unfold bo madeCells iF
 simp[Value.cells,h]
def aV (r g n:Nat):Array Value:=(zeroCells.setIfInBounds 129 (.map (some r))).setIfInBounds 130 (.slice (some ⟨g,0,none⟩) (n+1) (n+1))
theorem rK (r g n i:Nat) (h1:1<=i) (h2:i<=128):(aV r g n)[i]? =some (.int .i64 0):=by
 unfold aV
 rw[Array.getElem?_setIfInBounds_ne (by omega),Array.getElem?_setIfInBounds_ne (by omega)]
 unfold zeroCells
 rw[Array.getElem?_append_right (by simp;omega),Array.getElem?_append_left (by simp;omega)]
 have hi:i-1<128:=by omega
 simp[hi]
theorem CL (r g n:Nat):(aV r g n)[0]? =some (.int .u64 0):=by
 unfold aV
 rw[Array.getElem?_setIfInBounds_ne (by omega),Array.getElem?_setIfInBounds_ne (by omega)]
 unfold zeroCells
 rw[Array.getElem?_append_left (by simp)]
 rfl
theorem xm (r g n:Nat):(aV r g n)[129]? =some (.map (some r)):=by
 unfold aV
 rw[Array.getElem?_setIfInBounds_ne (by omega),Array.getElem?_setIfInBounds_self_of_lt (by rw[fy];omega)]
theorem wV (r g n:Nat):(aV r g n)[130]? =some (.slice (some ⟨g,0,none⟩) (n+1) (n+1)):=by
 unfold aV
 rw[Array.getElem?_setIfInBounds_self_of_lt (by rw[Array.size_setIfInBounds,fy];omega)]
theorem xd (r g n:Nat):(aV r g n)[131]? =some (.int .i64 0):=by
 unfold aV
 rw[Array.getElem?_setIfInBounds_ne (by omega),Array.getElem?_setIfInBounds_ne (by omega)]
 unfold zeroCells
 rw[Array.getElem?_append_right (by simp),Array.getElem?_append_right (by simp)]
 simp
theorem gA (w:World) (n:Nat):
  aB (((w.alloc (.map #[] 0)).alloc (.cells (bo n) 173)).alloc (.cells (aV w.heap.size (w.heap.size+1) n) 158)) (w.heap.size+1+1) (w.heap.size+1) n 0 0 (.map (some w.heap.size)) (fun _=>0) (fun _=>0) (fun _=>0) (fun _=>0) (fun _=>0) (fun _=>false):=by
 have e1:w.heap.size+1=(w.alloc (.map #[] 0)).heap.size:=by simp
 have e2:w.heap.size+1+1=((w.alloc (.map #[] 0)).alloc (.cells (bo n) 173)).heap.size:=by simp
 have hb: ∀i,(((w.alloc (.map #[] 0)).alloc (.cells (bo n) 173)).alloc (.cells (aV w.heap.size (w.heap.size+1) n) 158)).cell? ⟨w.heap.size+1+1,i,none⟩=(aV w.heap.size (w.heap.size+1) n)[i]? :=by
  intro i
  rw[e2];exact aD _ _ _ _
 have hg: ∀i,(((w.alloc (.map #[] 0)).alloc (.cells (bo n) 173)).alloc (.cells (aV w.heap.size (w.heap.size+1) n) 158)).cell? ⟨w.heap.size+1,i,none⟩=(bo n)[i]? :=by
  intro i
  rw[World.cell?_alloc_lt _ _ _ (by simp)]
  have:=aD (w.alloc (.map #[] 0)) (bo n) 173 i
  rw[←e1] at this
  exact this
 have fb: ∀i,(((w.alloc (.map #[] 0)).alloc (.cells (bo n) 173)).alloc (.cells (aV w.heap.size (w.heap.size+1) n) 158)).frozen? ⟨w.heap.size+1+1,i,none⟩=false:=by
  intro i
  rw[e2];exact aI _ _ _ _
 have fg: ∀i,(((w.alloc (.map #[] 0)).alloc (.cells (bo n) 173)).alloc (.cells (aV w.heap.size (w.heap.size+1) n) 158)).frozen? ⟨w.heap.size+1,i,none⟩=false:=by
  intro i
  rw[World.frozen?_alloc_past _ _ _ (by simp)]
  have:=aI (w.alloc (.map #[] 0)) (bo n) 173 i
  rw[←e1] at this
  exact this
 refine⟨by omega,⟨n+1,by rw[hb];exact wV _ _ _⟩,by rw[hb];exact CL _ _ _,by rw[hb];exact xm _ _ _,by rw[hb];exact xd _ _ _,fun x hx=> ?_,fun x hx=> ?_,fun x hx=> ?_,fun x hx=> ?_,fun x hx=> ?_,fun x hx=> ?_,fb,fg⟩
 ·rw[hb,rK _ _ _ _ (by omega) (by omega)];rfl
 ·rw[hb,rK _ _ _ _ (by omega) (by omega)];rfl
 ·rw[hg,j4 n _ (by omega),show x*4%4=0 by omega];rfl
 ·rw[hg,j4 n _ (by omega),show(x*4+1)%4=1 by omega];rfl
 ·rw[hg,j4 n _ (by omega),show(x*4+2)%4=2 by omega];rfl
 ·rw[hg,j4 n _ (by omega),show(x*4+3)%4=3 by omega];rfl
theorem cm (t:Nat) (ht:t<18446744073709551616) (w:World):
  Calls Tryz.prog 82 #[.int .u64 (t:Int)] w fun e w'=>e= .returned (.int .u64 ((t/64:Nat):Int))/\w'=w:=by
 have hw:IntKind.u64.wrap ((t:Int)/64)=((t/64:Nat):Int):=by rw[IntKind.wrap_u64];omega
 go_enter Tryz.func82,Tryz.ntmps82
 go_wp2
 go_ret
 exact⟨by simp,rfl⟩
section
variable {w:World} {b g n nw ct:Nat} {fm:Value} {F L A B E:Nat->Nat} {T:Nat->Bool}
theorem xY (h:aB w b g n nw ct fm F L A B E T):
  Calls Tryz.prog 52 #[.pointer (some ⟨b,0,none⟩)] w fun e w'=>e= .returned (.int .u64 (nw:Int))/\w'=w:=by
 have e2:=h.tn
 clear h
 go_enter Tryz.func52,Tryz.ntmps52
 go_wp2
 go_ret
 exact⟨rfl,rfl⟩
end
section
variable {w:World} {b g n nw ct:Nat} {fm:Value} {F L A B E:Nat->Nat} {T:Nat->Bool}
theorem vB (h:aB w b g n nw ct fm F L A B E T) (t:Nat) (ht:t<18446744073709551616) (hle:nw<=t) (htn:t/64=nw/64):
  Calls Tryz.prog 188 #[.pointer (some ⟨b,0,none⟩),.int .u64 (t:Int)] w fun e w'=>e= .returned (.agg #[.int .i64 (F (t%64):Int),.int .i64 (L (t%64):Int)])/\Below w.heap.size w w':=by
 have e0:=h.tn
 have e1:=h.sf (t%64) (Nat.mod_lt _ (by decide))
 have e2:=h.sl (t%64) (Nat.mod_lt _ (by decide))
 have hbb:=h.bS
 have y1: ¬b=w.heap.size:=by omega
 have hm:(nw:Int)<=(t:Int):=by omega
 have HT1:=aa (cm t ht)
 have hT2:=cm nw (by omega)
 rw[←htn] at hT2
 have HT2:=aa hT2
 have r1:(0:Int)<=((t%64:Nat):Int):=by omega
 have r2:((t%64:Nat):Int)<64:=by omega
 clear h hT2 htn
 go_enter Tryz.func188,Tryz.ntmps188
 go_wp2
 go_region_held3 (fun w'=>w'.cell? ⟨b,0,none⟩=some (.int .u64 (nw:Int))) (go_keep)
  (first
   |(go_at_call 82;first
     |(refine(HT1.out _).mono ?_;rintro e w1 ⟨rfl,hw⟩;subst hw)
     |(refine(HT2.out _).mono ?_;rintro e w1 ⟨rfl,hw⟩;subst hw)))
 go_wp2
 simp[bodyPost,results,Tryz.results188,go_sem]
 exact((z9 _ _).alloc (i8 _) _).drew
theorem we (h:aB w b g n nw ct fm F L A B E T) (t f l:Nat) (ht:t<18446744073709551616) (hle:nw<=t) (htn:t/64=nw/64):
  Calls Tryz.prog 186 #[.pointer (some ⟨b,0,none⟩),.int .u64 (t:Int),.agg #[.int .i64 (f:Int),.int .i64 (l:Int)]] w fun e w'=>e= .returned (.tuple #[])/\aB w' b g n nw ct fm (au F (t%64) f) (au L (t%64) l) A B E T/\aG b g w w':=by
 have hlt:t%64<64:=Nat.mod_lt _ (by decide)
 have e0:=h.tn
 have e1:=h.sf (t%64) hlt
 have e2:=h.sl (t%64) hlt
 have fb:=h.fb
 have hbb:=h.bS
 have y1: ¬b=w.heap.size:=by omega
 have hm:(nw:Int)<=(t:Int):=by omega
 have HT1:=aa (cm t ht)
 have hT2:=cm nw (by omega)
 rw[←htn] at hT2
 have HT2:=aa hT2
 have r1:(0:Int)<=((t%64:Nat):Int):=by omega
 have r2:((t%64:Nat):Int)<64:=by omega
 have HR:=aa h
 clear h hT2 htn
 go_enter Tryz.func186,Tryz.ntmps186
 go_wp2
 go_region_held3 (fun w'=>w'.cell? ⟨b,0,none⟩=some (.int .u64 (nw:Int))) (go_keep)
  (first
   |(go_at_call 82;first
     |(refine(HT1.out _).mono ?_;rintro e w1 ⟨rfl,hw⟩;subst hw)
     |(refine(HT2.out _).mono ?_;rintro e w1 ⟨rfl,hw⟩;subst hw)))
 go_wp2
 go_region
 go_wp2
 go_end0
 exact⟨rfl,((((HR.out.cS (t%64) hlt f).oe (t%64) hlt l).alloc _).drew).drew,(((((aG.refl b g w).set _ _ (Or.inl rfl)).set _ _ (Or.inl rfl)).alloc _).drew).drew⟩
end
theorem vo (k:Nat) (h:k<18446744073709551616):(Lit.int .u64 (k:Int)).wf=true:=by
 simp[Lit.wf,IntKind.min,IntKind.max,IntKind.bits,IntKind.signed]
 omega
section
variable {w:World} {b g mb n nw ct s:Nat} {F L A B E:Nat->Nat} {T:Nat->Bool} {fr:Int->Option (Nat×Nat)}
theorem qC (h:aB w b g n nw ct (.map (some mb)) F L A B E T) (hm:dv w mb fr s) (t:Nat) (ht:t<18446744073709551616) (hn:nw<18446744073709551616):
  Calls Tryz.prog 188 #[.pointer (some ⟨b,0,none⟩),.int .u64 (t:Int)] w fun e w'=>e= .returned (.agg #[.int .i64 ((ez nw F L fr (max t nw)).1:Int),.int .i64 ((ez nw F L fr (max t nw)).2:Int)])/\Below w.heap.size w w':=by
 by_cases hle:nw<=t
 ·rw[Nat.max_eq_left hle]
  by_cases htn:t/64=nw/64
  ·unfold ez
   rw[if_pos htn]
   exact vB h t ht hle htn
  ·unfold ez
   rw[if_neg htn]
   have e0:=h.tn
   have e1:=h.tm
   have hbb:=h.bS
   have y1: ¬b=w.heap.size:=by omega
   have hm':(nw:Int)<=(t:Int):=by omega
   have HT1:=aa (cm t ht)
   have HT2:=aa (cm nw hn)
   have hne: ¬((t/64:Nat):Int)=((nw/64:Nat):Int):=by omega
   have hlk:=hm.look (t:Int) (vo t ht)
   have hlk2:(Instr.lookup 152 (.map (some mb)) (.int .u64 (t:Int)) false).run Tryz.prog (w.alloc (.cells #[.int .i64 0,.int .i64 0] 155)).drew= .ok (.agg #[.int .i64 (((fr (t:Int)).getD (0,0)).1:Int),.int .i64 (((fr (t:Int)).getD (0,0)).2:Int)]) (w.alloc (.cells #[.int .i64 0,.int .i64 0] 155)).drew:=(hm.block (w':=(w.alloc (.cells #[.int .i64 0,.int .i64 0] 155)).drew) (Below.heap_alloc _ _ _ hm.lt)).look (t:Int) (vo t ht)
   generalize (fr (t:Int)).getD (0,0)=z at*
   generalize ((t/64:Nat):Int)=q1 at*
   generalize ((nw/64:Nat):Int)=q2 at*
   clear h htn
   go_enter Tryz.func188,Tryz.ntmps188
   go_wp2
   go_region_held3 (fun w'=>w'.cell? ⟨b,0,none⟩=some (.int .u64 (nw:Int))) (go_keep)
    (first
     |(go_at_call 82;first
       |(refine(HT1.out _).mono ?_;rintro e w1 ⟨rfl,hw⟩;subst hw)
       |(refine(HT2.out _).mono ?_;rintro e w1 ⟨rfl,hw⟩;subst hw)))
   go_wp2
   simp[bodyPost,results,Tryz.results188,go_sem]
   exact((z9 _ _).alloc (i8 _) _).drew
 ·rw[Nat.max_eq_right (by omega)]
  unfold ez
  rw[if_pos rfl]
  have e0:=h.tn
  have e1:=h.sf (nw%64) (Nat.mod_lt _ (by decide))
  have e2:=h.sl (nw%64) (Nat.mod_lt _ (by decide))
  have hbb:=h.bS
  have y1: ¬b=w.heap.size:=by omega
  have hm':(t:Int)<=(nw:Int):=by omega
  have HT2:=aa (cm nw hn)
  have r1:(0:Int)<=((nw%64:Nat):Int):=by omega
  have r2:((nw%64:Nat):Int)<64:=by omega
  clear h hm
  go_enter Tryz.func188,Tryz.ntmps188
  go_wp2
  go_region_held3 (fun w'=>w'.cell? ⟨b,0,none⟩=some (.int .u64 (nw:Int))) (go_keep)
   (first
    |(go_at_call 82;refine(HT2.out _).mono ?_;rintro e w1 ⟨rfl,hw⟩;subst hw))
  go_wp2
  simp[bodyPost,results,Tryz.results188,go_sem]
  exact((z9 _ _).alloc (i8 _) _).drew
end
structure Fr (S:Nat->Prop) (w w':World):Prop where
 os:w'.os=w.os
 tape:w'.tape=w.tape
 output:w'.output=w.output
 size:w.heap.size<=w'.heap.size
 block: ∀k,k<w.heap.size-> ¬S k->w'.heap[k]? =w.heap[k]?
section
variable {S S':Nat->Prop} {w w' w'':World}
theorem Fr.refl (S:Nat->Prop) (w:World):Fr S w w:=⟨rfl,rfl,rfl,i8 _,fun _ _ _=>rfl⟩
theorem Fr.wide (h:Fr S w w') (hs: ∀k,k<w.heap.size->S k->S' k):Fr S' w w':=⟨h.os,h.tape,h.output,h.size,fun k hk hn=>h.block k hk (fun q=>hn (hs k hk q))⟩
theorem Fr.trans (h:Fr S w w') (h':Fr S w' w''):Fr S w w'':=
 ⟨h'.os.trans h.os,h'.tape.trans h.tape,h'.output.trans h.output,yX0 h.size h'.size,fun k hk hn=>(h'.block k (zW0 hk h.size) hn).trans (h.block k hk hn)⟩
theorem Fr.alloc (h:Fr S w w') (o:Obj):Fr S w (w'.alloc o):=
 ⟨h.os,h.tape,h.output,yX0 h.size (by simp),fun k hk hn=>(Below.heap_alloc _ _ _ (zW0 hk h.size)).trans (h.block k hk hn)⟩
theorem Fr.setCell (h:Fr S w w') {a:Addr} (hb:S a.block) (u:Value):Fr S w (w'.setCell a u):=
 ⟨h.os,h.tape,h.output,by simpa using h.size,fun k hk hn=>(yY0 _ _ _ _ (fun e=>hn (by rw[e];exact hb))).trans (h.block k hk hn)⟩
theorem Fr.drewN (h:Fr S w w') (q:Nat):Fr S w (w'.drewN q):=⟨h.os,h.tape,h.output,h.size,h.block⟩
theorem Fr.aC (h:Below w.heap.size w w'):Fr S w w':=⟨h.os,h.tape,h.output,h.size,fun k hk _=>h.block k hk⟩
theorem Fr.gK {b g:Nat} (h:aG b g w w') (h1:S b) (h2:S g):Fr S w w':=⟨h.os,h.tape,h.output,h.size,fun k hk hn=>h.block k hk (fun e=>hn (by rw[e];exact h1)) (fun e=>hn (by rw[e];exact h2))⟩
theorem Fr.drew (h:Fr S w w'):Fr S w w'.drew:=⟨h.os,h.tape,h.output,h.size,h.block⟩
theorem Fr.vN {k:Nat} (h:w.grownBy w' (some k)) (hk:S k):Fr S w w':=⟨h.os,h.tape,h.output,h.size,fun j hj hn=>h.block j hj (fun e=>hn (by injection e with e;rw[e];exact hk))⟩
end
theorem eE: ∀{l m:List Int},l.Nodup->(∀x∈l,x∈m)->l.length<=m.length
 |[],_,_,_=>by simp
 |a::l,m,hn,hs=>by
  obtain⟨h1,h2⟩:=List.nodup_cons.1 hn
  have ha:a∈m:=hs a (by simp)
  have:=eE (l:=l) (m:=m.erase a) h2 (fun x hx=>(List.mem_erase_of_ne (fun e=>h1 (by rw[←e];exact hx))).2 (hs x (by simp[hx])))
  rw[List.length_erase_of_mem ha] at this
  have:=List.length_pos_of_mem ha
  simp
  omega
def GO:Lit->Int
 | .int _ i=>i
 |_=>0
theorem dv.size_le {w:World} {mb s:Nat} {f:Int->Option (Nat×Nat)} (h:dv w mb f s) (ks:List Int) (hk: ∀i,(f i).isSome=true->i∈ks):s<=ks.length:=by
 obtain⟨D,h1,h2,h3,h4⟩:=h
 have hform: ∀es,D= .map es-> ∀p∈es,∃i,p.1=Lit.int .u64 i:=by
  obtain⟨mes,clock,hb,Ft,hs,hD⟩:=h1
  intro es e p hp
  rw[hD] at e
  injection e with e
  rw[←e] at hp
  obtain⟨x,hx,rfl⟩:=List.mem_map.1 (mem_sorted.1 hp)
  obtain⟨y,hy⟩:=Ft.reads x hx
  rw[WideElems.rg_of hy]
  obtain⟨i,_,e2,_⟩:=Maps.keyOf_int_inv Tryz.underlying25 (WideElems.rd_key hy)
  exact⟨i,e2⟩
 obtain⟨es,rfl,hp,hkey⟩:=h1.entries sO
 have hf:=hform es rfl
 rw[←h4]
 show es.length<=_
 rw[←List.length_map (f:=fun p:Lit×DataW Unit=>GO p.1)]
 refine eE ?_ ?_
 ·rw[List.Nodup,List.pairwise_map]
  refine List.Pairwise.imp_of_mem ?_ hp
  intro p q hpm hqm hne e
  obtain⟨i,e1⟩:=hf p hpm
  obtain⟨j,e2⟩:=hf q hqm
  rw[e1,e2] at e
  exact hne (by rw[e1,e2,show i=j from e])
 ·intro i hi
  obtain⟨p,hpm,rfl⟩:=List.mem_map.1 hi
  obtain⟨j,e1⟩:=hf p hpm
  refine hk _ ?_
  rw[e1]
  show(f j).isSome=true
  rw[←h2 j]
  exact List.any_eq_true.2 ⟨p,hpm,by rw[e1];exact WideAt.sameKey_self trivial⟩
theorem dv.store {w:World} {mb s:Nat} {f:Int->Option (Nat×Nat)} (h:dv w mb f s) (hn:s<maxLen) (i:Int) (c:Nat×Nat) (hi:(Lit.int .u64 i).wf=true):
  ∃w',(Instr.mapUpdate 152 (.map (some mb)) (.int .u64 i) (.agg #[.int .i64 (c.1:Int),.int .i64 (c.2:Int)])).run Tryz.prog w= .ok () w'/\(∃s',dv w' mb (cS f i (some c)) s')/\w.grownBy w' (some mb):=by
 obtain⟨D,h1,h2,h3,h4⟩:=h
 obtain⟨w',hr,q1,q2⟩:=h1.store sO (t:=152) (e:=155) Tryz.underlying152 hn (sy i hi) (DN (c.1:Int) (c.2:Int))
 refine⟨w',hr,⟨Maps.size (D.put (.int .u64 i) (.agg [.lit (.int .i64 (c.1:Int)),.lit (.int .i64 (c.2:Int))])),D.put (.int .u64 i) (.agg [.lit (.int .i64 (c.1:Int)),.lit (.int .i64 (c.2:Int))]),tight q1 rfl,fun j=> ?_,fun j c' zd hj=> ?_,rfl⟩,World.mapTurned.grown q2⟩
 ·unfold cS
  by_cases e:j=i
  ·subst e
   rw[if_pos rfl,Maps.has_put_same h1.isMap (iN _)]
   rfl
  ·rw[if_neg e,Maps.has_put_other (gH e),h2 j]
 ·unfold cS at hj
  by_cases e:j=i
  ·subst e
   rw[if_pos rfl] at hj
   injection hj with hj
   rw[Maps.atKey_put_same h1.isMap (iN _),hj]
  ·rw[if_neg e] at hj
   rw[Maps.atKey_put_other (gH e)]
   exact h3 j c' zd hj
section
variable {w:World} {b g mb n nw ct s:Nat} {F L A B E:Nat->Nat} {T:Nat->Bool} {fr:Int->Option (Nat×Nat)}
def O3 (b g mb:Nat):Nat->Prop:=fun k=>k=b\/k=g\/k=mb
theorem BN (h:aB w b g n nw ct (.map (some mb)) F L A B E T) (hm:dv w mb fr s) (hbm:b≠mb) (hgm:g≠mb) (hs:s<maxLen) (t f l:Nat) (ht:t<18446744073709551616) (hn:nw<18446744073709551616):
  Calls Tryz.prog 186 #[.pointer (some ⟨b,0,none⟩),.int .u64 (t:Int),.agg #[.int .i64 (f:Int),.int .i64 (l:Int)]] w fun e w'=>e= .returned (.tuple #[])/\aB w' b g n nw ct (.map (some mb)) (ir nw F (max t nw) f) (ir nw L (max t nw) l) A B E T/\(∃s',dv w' mb (iZ nw fr (max t nw) f l) s')/\Fr (O3 b g mb) w w':=by
 by_cases hle:nw<=t
 ·rw[Nat.max_eq_left hle]
  unfold ir iZ
  by_cases htn:t/64=nw/64
  ·rw[if_pos htn,if_pos htn,if_pos htn]
   refine(we h t f l ht hle htn).mono ?_
   rintro e w' ⟨rfl,hr,ho⟩
   exact⟨rfl,hr,⟨s,hm.block (ho.block mb hm.lt (fun e=>hbm e.symm) (fun e=>hgm e.symm))⟩,Fr.gK ho (.inl rfl) (.inr (.inl rfl))⟩
  ·rw[if_neg htn,if_neg htn,if_neg htn]
   have e0:=h.tn
   have e1:=h.tm
   have hbb:=h.bS
   have y1: ¬b=w.heap.size:=by omega
   have hm':(nw:Int)<=(t:Int):=by omega
   have HT1:=aa (cm t ht)
   have HT2:=aa (cm nw hn)
   have hne: ¬((t/64:Nat):Int)=((nw/64:Nat):Int):=by omega
   have HM:=aa (fun o=>hm.block (w':=(w.alloc o).drew) (Below.heap_alloc _ _ _ hm.lt))
   have HR:=aa h
   have hmlt:=hm.lt
   have HEnd:Hid (∀o w1,(w.alloc o).drew.grownBy w1 (some mb)->aB w1 b g n nw ct (.map (some mb)) F L A B E T/\Fr (O3 b g mb) w w1):=fun o w1 hg=>by
    have hf:Fr (O3 b g mb) (w.alloc o).drew w1:=Fr.vN hg (.inr (.inr rfl))
    have hr:=(h.alloc o).drew
    refine⟨hr.kept (hg.block b hr.bS (fun e=>hbm (by injection e))) (hg.block g hr.cY (fun e=>hgm (by injection e))),(((Fr.refl _ w).alloc o).drew).trans hf⟩
   have hwf:=vo t ht
   generalize ((t/64:Nat):Int)=q1 at*
   generalize ((nw/64:Nat):Int)=q2 at*
   clear h htn hm
   by_cases hf0:f=0
   ·rw[if_pos hf0]
    have hf1:(f:Int)=0:=by omega
    clear hf0
    go_enter Tryz.func186,Tryz.ntmps186
    go_wp2
    go_region_held3 (fun w'=>w'.cell? ⟨b,0,none⟩=some (.int .u64 (nw:Int))) (go_keep)
     (first
      |(go_at_call 82;first
        |(refine(HT1.out _).mono ?_;rintro e w1 ⟨rfl,hw⟩;subst hw)
        |(refine(HT2.out _).mono ?_;rintro e w1 ⟨rfl,hw⟩;subst hw)))
    go_wp2_with (at_delete;refine cN rfl _ _ rfl (by exact HM.out _) (t:Int) hwf rfl rfl ?_;intro w1 hm1 hg1;have HM1:=aa hm1;have HE:=aa (HEnd.out _ _ hg1);clear hm1 hg1)
    go_end0
    exact⟨rfl,HE.out.1,⟨_,HM1.out⟩,HE.out.2⟩
   ·rw[if_neg hf0]
    have hf1: ¬(f:Int)=0:=by omega
    clear hf0
    go_enter Tryz.func186,Tryz.ntmps186
    go_wp2
    go_region_held3 (fun w'=>w'.cell? ⟨b,0,none⟩=some (.int .u64 (nw:Int))) (go_keep)
     (first
      |(go_at_call 82;first
        |(refine(HT1.out _).mono ?_;rintro e w1 ⟨rfl,hw⟩;subst hw)
        |(refine(HT2.out _).mono ?_;rintro e w1 ⟨rfl,hw⟩;subst hw)))
    obtain⟨w1,hst,hm1,hg1⟩:=(HM.out (.cells #[.int .i64 (f:Int),.int .i64 (l:Int)] 155)).block (w':=((w.alloc (.cells #[.int .i64 (f:Int),.int .i64 (l:Int)] 155)).drew).drew) rfl|>.store hs (t:Int) (f,l) hwf
    have HM1:=aa hm1
    have HE:=aa (HEnd.out _ _ (show(w.alloc (.cells #[.int .i64 (f:Int),.int .i64 (l:Int)] 155)).drew.grownBy w1 (some mb) from⟨hg1.os,hg1.tape,hg1.output,hg1.size,hg1.block⟩))
    clear hm1 hg1
    go_wp2
    go_region
    go_wp2
    go_end0
    exact⟨rfl,HE.out.1,HM1.out,HE.out.2⟩
 ·rw[Nat.max_eq_right (by omega)]
  unfold ir iZ
  rw[if_pos rfl,if_pos rfl,if_pos rfl]
  have hlt:nw%64<64:=Nat.mod_lt _ (by decide)
  have e0:=h.tn
  have e1:=h.sf (nw%64) hlt
  have e2:=h.sl (nw%64) hlt
  have fb:=h.fb
  have hbb:=h.bS
  have y1: ¬b=w.heap.size:=by omega
  have hm':(t:Int)<=(nw:Int):=by omega
  have HT2:=aa (cm nw hn)
  have r1:(0:Int)<=((nw%64:Nat):Int):=by omega
  have r2:((nw%64:Nat):Int)<64:=by omega
  have HR:=aa h
  have HM:=aa hm
  clear h hm
  go_enter Tryz.func186,Tryz.ntmps186
  go_wp2
  go_region_held3 (fun w'=>w'.cell? ⟨b,0,none⟩=some (.int .u64 (nw:Int))) (go_keep)
   (first
    |(go_at_call 82;refine(HT2.out _).mono ?_;rintro e w1 ⟨rfl,hw⟩;subst hw))
  go_wp2
  go_region
  go_wp2
  go_end0
  have hO:aG b g w _:=(((((aG.refl b g w).set ⟨b,1+nw%64*2,none⟩ (.int .i64 (f:Int)) (Or.inl rfl)).set ⟨b,1+nw%64*2+1,none⟩ (.int .i64 (l:Int)) (Or.inl rfl)).alloc (.cells #[.int .i64 (f:Int),.int .i64 (l:Int)] 155)).drew).drew
  exact⟨rfl,((((HR.out.cS (nw%64) hlt f).oe (nw%64) hlt l).alloc _).drew).drew,⟨s,HM.out.block (hO.block mb HM.out.lt (fun e=>hbm e.symm) (fun e=>hgm e.symm))⟩,Fr.gK hO (.inl rfl) (.inr (.inl rfl))⟩
end
def pos:List Nat->Nat->Nat
 |[],_=>0
 |y::ys,v=>if y=v then 1 else if pos ys v=0 then 0 else pos ys v+1
theorem jL: ∀(R S:List Nat) (y:Nat),(R++y::S).Nodup->pos (R++y::S) y=R.length+1
 |[],S,y,_=>by simp[pos]
 |z::R,S,y,h=>by
  obtain⟨h1,h2⟩:=List.nodup_cons.1 h
  have hz:z≠y:=fun e=>h1 (by rw[e];simp)
  show(if z=y then 1 else if pos (R++y::S) y=0 then 0 else pos (R++y::S) y+1)=_
  rw[if_neg hz,jL R S y h2,if_neg (by omega)]
  simp
theorem ve: ∀(R:List Nat) (y:Nat),y ∉ R->pos R y=0
 |[],_,_=>rfl
 |z::R,y,h=>by
  have h1:z≠y:=fun e=>h (by simp[e])
  show(if z=y then 1 else if pos R y=0 then 0 else pos R y+1)=0
  rw[if_neg h1,ve R y (fun q=>h (by simp[q])),if_pos rfl]
def lz (l:List Nat):Nat:=l.getLastD 0
def hz (l:List Nat):Nat:=l.headD 0
theorem oY (R:List Nat) (y d:Nat):(R++[y]).getLastD d=y:=by simp
section
variable {w:World} {b g n nw ct f l x t:Nat} {fm:Value} {F L A B E:Nat->Nat} {T:Nat->Bool} {P Q:List Nat}
theorem yY (h:aB w b g n nw ct fm F L A B E T) (hL:lO A B f l (P++Q)) (hP: ∀p∈P,E p<=t) (hQ: ∀q∈Q,t<E q) (h0: ∀p∈P++Q,p≠0/\p<=n) (hnd:(P++Q).Nodup) (hx:x<=n) (hxm:x ∉ P++Q)
  {f' l':Nat} {A' B':Nat->Nat} (hf':f'=if lz P=0 then x else f) (hl':l'=if hz Q=0 then x else l) (hA':A'=dL (au A x (lz P)) (hz Q) x) (hB':B'=dL (au B x (hz Q)) (lz P) x):
  Calls Tryz.prog 187 #[.pointer (some ⟨b,0,none⟩),.agg #[.int .i64 (f:Int),.int .i64 (l:Int)],.int .i64 (x:Int),.int .u64 (t:Int)] w fun e w'=>
   e= .returned (.agg #[.int .i64 (f':Int),.int .i64 (l':Int)])/\aB w' b g n nw ct fm F L A' B' (au E x t) (au T x true)/\aG b g w w':=by
 have HF':=aa hf'
 have HL':=aa hl'
 have HA':=aa hA'
 have HB':=aa hB'
 clear hf' hl' hA' hB'
 obtain⟨cp,e0⟩:=h.en
 have n0:=h.ea x hx;have n1:=h.eb x hx;have n2:=h.ee x hx;have n3:=h.et x hx
 have fg:=h.fg
 have hbb:=h.bS
 have hgg:=h.cY
 have y1: ¬b=w.heap.size:=by omega
 have y2: ¬g=w.heap.size:=by omega
 have y3: ¬b=w.heap.size+1:=by omega
 have y4: ¬g=w.heap.size+1:=by omega
 have xl:x<n+1:=by omega
 have HR:=aa h
 have HL:=aa hL
 have HP:=aa hP
 have HQ:=aa hQ
 have H0:=aa h0
 have HN:=aa hnd
 have HX:=aa hxm
 have hl0:l=lz (P++Q):=hL.l
 have Hl0:=aa hl0
 clear h hL hP hQ h0 hnd hxm hl0
 go_enter Tryz.func187,Tryz.ntmps187
 go_wp2
 go_loopw [9,10] (fun a c wr=> ∃Q1 Q2,Q=Q1++Q2/\a= .int .i64 ((lz (P++Q1):Nat):Int)/\c= .int .i64 ((hz Q2:Nat):Int)/\wr=(w.alloc (.cells #[.int .i64 (f:Int),.int .i64 (l:Int)] 155)).alloc (.cells #[.int .i64 0,.int .i64 0] 155)) (fun a _ _=>pos (P++Q) (intOf a).toNat)
 case atStart=>exact⟨Q,[],by simp,by rw[←Hl0.out],rfl,rfl⟩
 case round=>
  obtain⟨Q1,Q2,hq,rfl,rfl,rfl⟩:=hrel
  rcases Q1.eq_nil_or_concat with rfl|⟨R,y,rfl⟩
  ·obtain rfl:Q=Q2:=by simpa using hq
   clear hq
   rw[List.append_nil]
   have hlm:lz P≠0->lz P∈P:=nP
   have hhm:hz Q≠0->hz Q∈Q:=head_mem
   have HE:Hid (lz P≠0->lz P<=n/\E (lz P)<=t/\lz P≠x):=fun q=>⟨(H0.out _ (List.mem_append_left _ (hlm q))).2,HP.out _ (hlm q),fun e=>HX.out (by rw[←e];exact List.mem_append_left _ (hlm q))⟩
   have HF:Hid (hz Q≠0->hz Q<=n/\hz Q≠x):=fun q=>⟨(H0.out _ (List.mem_append_right _ (hhm q))).2,fun e=>HX.out (by rw[←e];exact List.mem_append_right _ (hhm q))⟩
   clear HL HP HQ H0 HN HX Hl0 hlm hhm
   obtain⟨ah,hah⟩: ∃ah,lz P=ah:=⟨_,rfl⟩
   obtain⟨be,hbe⟩: ∃be,hz Q=be:=⟨_,rfl⟩
   rw[hah] at HE HF' HA' HB'⊢
   rw[hbe] at HF HL' HA' HB'⊢
   clear hah hbe
   obtain⟨W4,hW4⟩: ∃W4,W4=(((w.setCell ⟨g,x*4,none⟩ (.int .i64 (ah:Int))).setCell ⟨g,x*4+1,none⟩ (.int .i64 (be:Int))).setCell ⟨g,x*4+2,none⟩ (.int .u64 (t:Int))).setCell ⟨g,x*4+3,none⟩ (.bool true):=⟨_,rfl⟩
   have HEND:Hid (aB W4 b g n nw ct fm F L (au A x ah) (au B x be) (au E x t) (au T x true)):=by rw[hW4];exact(((HR.out.fh x hx ah).fe x hx be).EO x hx t).kj x hx true
   have HO:Hid (aG b g w W4):=by rw[hW4];exact((((aG.refl b g w).set _ _ (Or.inr rfl)).set _ _ (Or.inr rfl)).set _ _ (Or.inr rfl)).set _ _ (Or.inr rfl)
   have HS:Hid (W4.heap.size=w.heap.size):=by rw[hW4];show _=_;simp
   have HW4:=aa hW4
   clear hW4
   have ht:ah≠0-> ¬(t:Int)<(E ah:Int):=fun q=>by have:=(HE.out q).2.1;omega
   have HT:=aa ht
   clear ht
   by_cases ha:ah=0
   ·subst ha
    go_upto_region 5 with fail
    have hW4':W4=(((w.setCell ⟨g,x*4,none⟩ (.int .i64 0)).setCell ⟨g,x*4+1,none⟩ (.int .i64 (be:Int))).setCell ⟨g,x*4+2,none⟩ (.int .u64 (t:Int))).setCell ⟨g,x*4+3,none⟩ (.bool true):=HW4.out
    rw[←hW4']
    clear hW4'
    have hs4:=HS.out
    have fg4:=HEND.out.fg
    obtain⟨cp4,e04⟩:=HEND.out.en
    clear HE HW4 n0 n1 n2 n3 e0 fg
    by_cases hb:be=0
    ·subst hb
     clear HF
     go_wp2
     have eF:=HF'.out
     have eL:=HL'.out
     have eA:=HA'.out
     have eB:=HB'.out
     simp only[dL,if_true,if_pos rfl,reduceIte] at eF eL eA eB
     rw[eF,eL,eA,eB]
     clear eF eL eA eB
     simp[bodyPost,results,Tryz.results187,go_sem,dL,hs4]
     exact⟨(HEND.out.alloc _).alloc _,(HO.out.alloc _).alloc _⟩
    ·obtain⟨b1,b2⟩:=HF.out hb
     have c0:=HEND.out.ea be b1
     have hb': ¬(be:Int)=0:=by omega
     have bl:be<n+1:=by omega
     clear HF
     go_wp2
     have eF:=HF'.out
     have eL:=HL'.out
     have eA:=HA'.out
     have eB:=HB'.out
     simp only[dL,if_neg hb,reduceIte] at eF eL eA eB
     rw[eF,eL,eA,eB]
     clear eF eL eA eB
     simp[bodyPost,results,Tryz.results187,go_sem,dL,hb,hs4]
     exact⟨((HEND.out.fh be b1 x).alloc _).alloc _,((HO.out.set _ _ (Or.inr rfl)).alloc _).alloc _⟩
   ·obtain⟨a1,a2,a3⟩:=HE.out ha
    have c2:=HR.out.ee ah a1
    have ha': ¬(ah:Int)=0:=by omega
    have al:ah<n+1:=by omega
    have ht:=HT.out ha
    clear HE HT
    go_upto_region 5 with fail
    rw[←HW4.out]
    have hs4:=HS.out
    have fg4:=HEND.out.fg
    have c1:=HEND.out.eb ah a1
    obtain⟨cp4,e04⟩:=HEND.out.en
    clear HW4 n0 n1 n2 n3 e0 fg c2
    by_cases hb:be=0
    ·subst hb
     clear HF
     go_wp2
     have eF:=HF'.out
     have eL:=HL'.out
     have eA:=HA'.out
     have eB:=HB'.out
     simp only[dL,if_neg ha,reduceIte] at eF eL eA eB
     rw[eF,eL,eA,eB]
     clear eF eL eA eB
     simp[bodyPost,results,Tryz.results187,go_sem,dL,ha,hs4]
     exact⟨((HEND.out.fe ah a1 x).alloc _).alloc _,((HO.out.set _ _ (Or.inr rfl)).alloc _).alloc _⟩
    ·obtain⟨b1,b2⟩:=HF.out hb
     obtain⟨W5,hW5⟩: ∃W5,W5=W4.setCell ⟨g,ah*4+1,none⟩ (.int .i64 (x:Int)):=⟨_,rfl⟩
     have HR5:Hid (aB W5 b g n nw ct fm F L (au A x ah) (au (au B x be) ah x) (au E x t) (au T x true)):=by rw[hW5];exact HEND.out.fe ah a1 x
     have HO5:Hid (aG b g w W5):=by rw[hW5];exact HO.out.set _ _ (Or.inr rfl)
     have HS5:Hid (W5.heap.size=w.heap.size):=by rw[hW5];show _=_;simp;exact HS.out
     have hb': ¬(be:Int)=0:=by omega
     have bl:be<n+1:=by omega
     have HW5:=aa hW5
     clear HF hW5
     go_upto_region 8 with fail
     rw[←HW5.out]
     have hs5:=HS5.out
     have fg5:=HR5.out.fg
     have c0:=HR5.out.ea be b1
     obtain⟨cp5,e05⟩:=HR5.out.en
     clear HW5 fg4 c1 e04 hs4
     go_wp2
     have eF:=HF'.out
     have eL:=HL'.out
     have eA:=HA'.out
     have eB:=HB'.out
     simp only[dL,if_neg ha,if_neg hb,reduceIte] at eF eL eA eB
     rw[eF,eL,eA,eB]
     clear eF eL eA eB
     simp[bodyPost,results,Tryz.results187,go_sem,dL,ha,hb,hs5]
     exact⟨((HR5.out.fh be b1 x).alloc _).alloc _,((HO5.out.set _ _ (Or.inr rfl)).alloc _).alloc _⟩
  ·rw[List.concat_eq_append] at hq⊢
   have e1:lz (P++(R++[y]))=y:=by unfold lz;rw[←List.append_assoc];exact oY _ _ _
   have hQe:P++Q=(P++R)++y::Q2:=by rw[hq];simp
   have hyQ:y∈Q:=by rw[hq];simp
   have hy:=H0.out y (List.mem_append_right _ hyQ)
   have ht:=HQ.out y hyQ
   have hl:=HL.out
   have hnd:=HN.out
   rw[hQe] at hl hnd
   have hA:A y=lz (P++R):=hl.Ha.1
   have HM:Hid (pos (P++Q) (lz (P++R))<pos (P++Q) y):=by
    show _<_
    unfold lz
    rw[hQe,jL _ _ _ hnd]
    rcases(P++R).eq_nil_or_concat with e|⟨R',z,e⟩<;>(try rw[List.concat_eq_append] at e)
    ·rw[e,ve _ _ (fun q=>(H0.out 0 (by rw[hQe,e];exact q)).1 rfl)]
     simp
    ·rw[e,oY]
     have e2:(R'++[z])++y::Q2=R'++z::(y::Q2):=by simp
     rw[e] at hnd
     rw[e2] at hnd⊢
     rw[jL _ _ _ hnd]
     simp
   have HREL:Hid (Q=R++(y::Q2)):=by show _=_;rw[hq];simp
   have n0y:=HR.out.ea y hy.2
   have n2y:=HR.out.ee y hy.2
   rw[hA] at n0y
   have hy': ¬(y:Int)=0:=by have:=hy.1;omega
   have yl:y<n+1:=by have:=hy.2;omega
   have ht':(t:Int)<(E y:Int):=by omega
   rw[e1]
   clear e1 hQe hyQ hy ht hl hnd hA hq
   obtain⟨z,hz⟩: ∃z,lz (P++R)=z:=⟨_,rfl⟩
   rw[hz] at n0y HM
   have HZ:=aa hz
   clear hz
   go_wp2
   go_roundw
   case rel=>exact⟨R,y::Q2,HREL.out,by rw[HZ.out],rfl,trivial⟩
   case measure=>simp[intOf];exact HM.out
end
def sk (w:World) (b g mb n nw:Nat) (S:List It):Prop:=
 ∃(ct:Nat) (F L:Nat->Nat) (fr:Int->Option (Nat×Nat)) (A B E:Nat->Nat) (T:Nat->Bool) (s:Nat),aB w b g n nw ct (.map (some mb)) F L A B E T/\dv w mb fr s/\Inv n nw ct F L fr A B E T S/\b≠mb/\g≠mb/\n<=1024
section
variable {w w':World} {b g mb n nw ct s:Nat} {F L A B E:Nat->Nat} {T:Nat->Bool} {fr:Int->Option (Nat×Nat)} {S:List It}
theorem Inv.bW (h:Inv n nw ct F L fr A B E T S):S.length<=n:=by
 have:=eE (l:=S.map (fun x=>(x.i:Int))) (m:=(List.range n).map (fun (k:Nat)=>(k:Int))) (by
  have hn:=h.nd
  rw[List.Nodup,List.pairwise_map] at hn⊢
  exact hn.imp (fun {a c} hne e=>hne (by omega))) (fun x hx=>by
   obtain⟨y,hy,rfl⟩:=List.mem_map.1 hx
   exact List.mem_map.2 ⟨y.i,List.mem_range.2 (h.lt y hy),rfl⟩)
 simpa using this
theorem Inv.map_le (h:Inv n nw ct F L fr A B E T S) (hm:dv w mb fr s):s<=S.length:=by
 have:=hm.size_le (S.map (fun x=>(ky nw x:Int))) (fun i hi=>by
  obtain⟨k,rfl,hk⟩:=h.out i hi
  rcases h.ft k hk with ⟨e,_⟩|⟨f,l,_,e,_⟩
  ·rw[e] at hi;cases hi
  ·obtain⟨x,hx⟩:=List.exists_mem_of_ne_nil _ e
   obtain⟨h1,h2⟩:=da.1 hx
   exact List.mem_map.2 ⟨x,h1,by rw[h2]⟩)
 simpa using this
theorem sk.frame {Z:Nat->Prop} (h:sk w b g mb n nw S) (hf:Fr Z w w') (h1: ∀k,O3 b g mb k-> ¬Z k):sk w' b g mb n nw S:=by
 obtain⟨ct,F,L,fr,A,B,E,T,s,hr,hm,hi,r⟩:=h
 exact⟨ct,F,L,fr,A,B,E,T,s,hr.kept (hf.block b hr.bS (h1 b (.inl rfl))) (hf.block g hr.cY (h1 g (.inr (.inl rfl)))),hm.block (hf.block mb hm.lt (h1 mb (.inr (.inr rfl)))),hi,r⟩
theorem sk.facts (h:sk w b g mb n nw S):ji S/\(S.map (·.i)).Nodup/\(∀x∈S,x.i<n)/\(∀x∈S,x.t<18446744073709551616)/\nw<18446744073709551616/\S.length<=n/\n<=1024:=by
 obtain⟨ct,F,L,fr,A,B,E,T,s,hr,hm,hi,_,_,hn⟩:=h
 exact⟨hi.srt,hi.nd,hi.lt,hi.tm,hi.hw,hi.bW,hn⟩
def pZ (S:List It) (id:Int):Option Nat:=(S.find? (fun x=>(x.i:Int)==id)).map (·.t)
def dR (n:Nat) (S:List It) (id:Int):Int:=if id<0\/(n:Int)<=id then 2 else if (pZ S id).isSome then 5 else 0
def gY (n:Nat) (S:List It) (id:Int) (t:Nat):List It:=if dR n S id=0 then ins ⟨id.toNat,t⟩ S else S
theorem wN {id t:Nat} (hn:(S.map (·.i)).Nodup):pZ S (id:Int)=some t↔(⟨id,t⟩:It)∈S:=by
 unfold pZ
 rw[Option.map_eq_some_iff]
 constructor
 ·rintro⟨x,hx,rfl⟩
  have h1:=List.mem_of_find?_eq_some hx
  have h2:=List.find?_some hx
  simp at h2
  have h3:x.i=id:=by omega
  rw[←h3]
  exact h1
 ·intro h
  cases hf:S.find? (fun x=>(x.i:Int)==(id:Int)) with
  |none=>
   have:=List.find?_eq_none.1 hf ⟨id,t⟩ h
   simp at this
  |some y=>
   have h1:=List.mem_of_find?_eq_some hf
   have h2:=List.find?_some hf
   simp at h2
   have:=yM hn h1 h (show y.i=id by omega)
   exact⟨y,rfl,by rw[this]⟩
theorem iJ {id:Nat}:pZ S (id:Int)=none↔ ∀x∈S,x.i≠id:=by
 unfold pZ
 rw[Option.map_eq_none_iff,List.find?_eq_none]
 simp
 exact⟨fun h x hx e=>h x hx (by omega),fun h x hx e=>h x hx (by omega)⟩
theorem Inv.there (h:Inv n nw ct F L fr A B E T S) (id:Nat) (hid:id<n):T (id+1)=(pZ S (id:Int)).isSome/\E (id+1)=(pZ S (id:Int)).getD 0:=by
 cases hx:pZ S (id:Int) with
 |none=>
  have:=h.zer (id+1) (by omega) (fun x hx' e=>iJ.1 hx x hx' (by omega))
  exact this
 |some t=>
  have:=h.lR _ ((wN h.nd).1 hx)
  exact this
theorem fS (h:aB w b g n nw ct (.map (some mb)) F L A B E T) (id:Int) (hn:n<=1024):
  Calls Tryz.prog 185 #[.pointer (some ⟨b,0,none⟩),.int .i64 id] w fun e w'=>e= .returned (.bool (decide (0<=id)&&decide (id<(n:Int))))/\w'=w:=by
 obtain⟨cp,e0⟩:=h.en
 clear h
 by_cases h1:0<=id
 ·by_cases h2:id<(n:Int)
  ·go_enter Tryz.func185,Tryz.ntmps185
   go_wp2
   go_ret
   exact⟨by simp[h1,h2],rfl⟩
  ·go_enter Tryz.func185,Tryz.ntmps185
   go_wp2
   go_ret
   exact⟨by simp[h1,h2],rfl⟩
 ·have h3:id<0:=by omega
  go_enter Tryz.func185,Tryz.ntmps185
  go_wp2
  go_ret
  exact⟨by simp;omega,rfl⟩
theorem Et (h:sk w b g mb n nw S) (id:Int) (t:Nat) (ht:t<18446744073709551616):
  Calls Tryz.prog 161 #[.pointer (some ⟨b,0,none⟩),.int .i64 id,.int .u64 (t:Int)] w fun e w'=>e= .returned (.int .i64 (dR n S id))/\sk w' b g mb n nw (gY n S id t)/\Fr (O3 b g mb) w w':=by
 have hW:=h
 obtain⟨ct,F,L,fr,A,B,E,T,s,hr,hm,hi,hbm,hgm,hn⟩:=h
 have hmay:=fS hr id hn
 by_cases hb:id<0\/(n:Int)<=id
 ·have hc:dR n S id=2:=if_pos hb
  have hs:gY n S id t=S:=if_neg (by rw[hc];decide)
  rw[hc,hs]
  rw[show(decide (0<=id)&&decide (id<(n:Int)))=false by rcases hb with q|q<;>simp<;>omega] at hmay
  have HM:=aa hmay
  have HW:=aa hW
  clear hmay hW hr hm hi hc hs hb
  go_enter Tryz.func161,Tryz.ntmps161
  go_wp2_with (first
   |(go_at_call 185;refine(HM.out).mono ?_;rintro e w1 ⟨rfl,hw⟩;replace hw:=hw.symm;subst hw))
  go_ret
  exact⟨rfl,HW.out,Fr.refl _ _⟩
 ·obtain⟨i,rfl⟩:=Int.eq_ofNat_of_zero_le (show 0<=id by omega)
  have hin:i<n:=by omega
  rw[show(decide (0<=(i:Int))&&decide ((i:Int)<(n:Int)))=true by simp;omega] at hmay
  obtain⟨hth,_⟩:=hi.there i hin
  have e1:=hr.et (i+1) (by omega)
  rw[hth] at e1
  obtain⟨cp,e0⟩:=hr.en
  cases hx:pZ S (i:Int) with
  |some t0=>
   have hc:dR n S (i:Int)=5:=by unfold dR;rw[if_neg hb,hx];rfl
   have hs:gY n S (i:Int) t=S:=if_neg (by rw[hc];decide)
   rw[hc,hs]
   rw[hx] at e1
   have e1':w.cell? ⟨g,(i+1)*4+3,none⟩=some (.bool true):=e1
   have HM:=aa hmay
   have HW:=aa hW
   clear hmay hW hr hm hi hc hs hb hth e1 hx
   go_enter Tryz.func161,Tryz.ntmps161
   go_wp2_with (first
    |(go_at_call 185;refine(HM.out).mono ?_;rintro e w1 ⟨rfl,hw⟩;replace hw:=hw.symm;subst hw))
   go_ret
   exact⟨rfl,HW.out,Fr.refl _ _⟩
  |none=>
   have hc:dR n S (i:Int)=0:=by unfold dR;rw[if_neg hb,hx];rfl
   have hs:gY n S (i:Int) t=ins ⟨i,t⟩ S:=by unfold gY;rw[if_pos hc];rfl
   rw[hc,hs]
   rw[hx] at e1 hth
   have e1':w.cell? ⟨g,(i+1)*4+3,none⟩=some (.bool false):=e1
   have hI:=hi.set i t hin hth ht
   have hspl:=hi.yh t
   have hlst:=hi.list (max t nw) (Nat.le_max_right _ _)
   have hlen:=hi.bW
   have hsz:=hi.map_le hm
   have hct:=hi.hc
   rw[hspl] at hlst
   have hmem: ∀p∈pre nw S t++l9 nw S t,∃y∈S,y.i+1=p:=fun p hp=>by
    rw[←hspl] at hp
    obtain⟨y,hy,rfl⟩:=bX.1 hp
    exact⟨y,(da.1 hy).1,rfl⟩
   have hP: ∀p∈pre nw S t,E p<=t:=fun p hp=>by
    unfold pre at hp
    obtain⟨y,hy,rfl⟩:=bX.1 hp
    obtain⟨h1,h2⟩:=List.mem_filter.1 hy
    rw[(hi.lR y (da.1 h1).1).2]
    simpa using h2
   have hQ: ∀p∈l9 nw S t,t<E p:=fun p hp=>by
    unfold l9 at hp
    obtain⟨y,hy,rfl⟩:=bX.1 hp
    obtain⟨h1,h2⟩:=List.mem_filter.1 hy
    rw[(hi.lR y (da.1 h1).1).2]
    simpa using h2
   have h0: ∀p∈pre nw S t++l9 nw S t,p≠0/\p<=n:=fun p hp=>by
    obtain⟨y,hy,rfl⟩:=hmem p hp
    have:=hi.lt y hy
    omega
   have hnd:(pre nw S t++l9 nw S t).Nodup:=by rw[←hspl];exact jB (nO hi.nd)
   have hxm:i+1 ∉ pre nw S t++l9 nw S t:=fun q=>by
    obtain⟨y,hy,e⟩:=hmem _ q
    exact iJ.1 hx y hy (by omega)
   obtain⟨f',hf'⟩: ∃f',f'=if (pre nw S t).getLastD 0=0 then i+1 else(ez nw F L fr (max t nw)).1:=⟨_,rfl⟩
   obtain⟨l',hl'⟩: ∃l',l'=if (l9 nw S t).headD 0=0 then i+1 else(ez nw F L fr (max t nw)).2:=⟨_,rfl⟩
   obtain⟨A',hA'⟩: ∃A',A'=dL (au A (i+1) ((pre nw S t).getLastD 0)) ((l9 nw S t).headD 0) (i+1):=⟨_,rfl⟩
   obtain⟨B',hB'⟩: ∃B',B'=dL (au B (i+1) ((l9 nw S t).headD 0)) ((pre nw S t).getLastD 0) (i+1):=⟨_,rfl⟩
   have hTie:=fun W (hb:Below w.heap.size w W)=>yY (x:=i+1) (t:=t) (hr.below hb) hlst hP hQ h0 hnd (by omega) hxm (f':=f') (l':=l') (A':=A') (B':=B') hf' hl' hA' hB'
   rw[←hf',←hl',←hA',←hB'] at hI
   have hLi:=qC hr hm t ht hi.hw
   obtain⟨f0,hf0⟩: ∃f0,(ez nw F L fr (max t nw)).1=f0:=⟨_,rfl⟩
   obtain⟨l0,hl0⟩: ∃l0,(ez nw F L fr (max t nw)).2=l0:=⟨_,rfl⟩
   rw[hf0,hl0] at hLi hTie
   have hcast:((i+1:Nat):Int)=(i:Int)+1:=by omega
   rw[hcast] at hTie
   have HTie:=aa hTie
   have HLi:=aa hLi
   have HKe:Hid (∀W,aB W b g n nw ct (.map (some mb)) F L A' B' (au E (i+1) t) (au T (i+1) true)->dv W mb fr s->Calls Tryz.prog 186 #[.pointer (some ⟨b,0,none⟩),.int .u64 (t:Int),.agg #[.int .i64 (f':Int),.int .i64 (l':Int)]] W fun e w'=>e= .returned (.tuple #[])/\aB w' b g n nw ct (.map (some mb)) (ir nw F (max t nw) f') (ir nw L (max t nw) l') A' B' (au E (i+1) t) (au T (i+1) true)/\(∃s',dv w' mb (iZ nw fr (max t nw) f' l') s')/\Fr (O3 b g mb) W w'):=
    fun W h1 h2=>BN h1 h2 hbm hgm (by unfold maxLen;omega) t f' l' ht hi.hw
   have HM:=aa hmay
   have HI:=aa hI
   have HIM:=aa hm
   have hcb:ct<=1024:=by omega
   have hwc:IntKind.i64.wrap ((ct:Int)+1)=(ct:Int)+1:=by simp[IntKind.wrap,IntKind.bits,IntKind.signed];omega
   clear hmay hW hr hm hi hc hs hb hth e1 hx hI hspl hlst hlen hsz hct hmem hP hQ h0 hnd hxm hf' hl' hA' hB' hTie hLi hf0 hl0 hcast
   go_enter Tryz.func161,Tryz.ntmps161
   go_wp2_with (first
    |(go_at_call 185;refine(HM.out).mono ?_;rintro e w1 ⟨rfl,hw⟩;replace hw:=hw.symm;subst hw)
    |(go_at_call 188;refine(HLi.out).mono ?_;rintro e w1 ⟨rfl,hb⟩;have HB:=aa hb;clear hb)
    |(go_at_call 187;refine(HTie.out _ HB.out).mono ?_;rintro e w2 ⟨rfl,hr,ho⟩;have HR2:=aa hr;have HM2:=aa ((HIM.out.block (HB.out.block mb HIM.out.lt)).block (ho.block mb (zW0 HIM.out.lt HB.out.size) (fun e=>hbm e.symm) (fun e=>hgm e.symm)));have HO2:=aa ((Fr.aC HB.out).trans (Fr.gK (S:=O3 b g mb) ho (.inl rfl) (.inr (.inl rfl))));clear hr ho)
    |(go_at_call 186;refine(HKe.out _ HR2.out HM2.out).mono ?_;rintro e w3 ⟨rfl,hr,hm3,ho⟩;have r2:=hr.tc;have r3:=hr.fb;have HR3:=aa hr;have HM3:=aa hm3;have HO3:=aa (HO2.out.trans ho);clear hr ho hm3))
   go_ret
   obtain⟨s3,hm3⟩:=HM3.out
   refine⟨rfl,⟨ct+1,_,_,_,_,_,_,_,s3,HR3.out.sm (ct+1),hm3.block ?_,HI.out,hbm,hgm,hn⟩,HO3.out.setCell (.inl rfl) _⟩
   exact yY0 _ _ _ _ hbm.symm
theorem Fe (h:sk w b g mb n nw S):
  Calls Tryz.prog 52 #[.pointer (some ⟨b,0,none⟩)] w fun e w'=>e= .returned (.int .u64 (nw:Int))/\w'=w:=by
 obtain⟨ct,F,L,fr,A,B,E,T,s,hr,hm,hi,hbm,hgm,hn⟩:=h
 exact xY hr
end
theorem du:(Tryz.prog.info? 3).map (fun i=>(i.zero,i.size,i.bytes))=some (some (.int .i64 0),1,8):=by kernel_rfl
theorem jQ {P:Program} (w:World) {ops:Array Oper} {rest:List Oper} {o:Oper} {a:Act} {Q:Exit->Act->World->Prop} (hgd:o.guard=none) (s x:Operand) (t:TypeId)
  (ho:o.op= .call {callee:= .builtin .append,args:= #[s,x],argTypes:= #[t,t]})
  (base:Nat) (e:TypeId) (i:TypeInfo) (size:Nat) (ht:P.underlying t=some (.slice e)) (hi:P.info? e=some i)
  (v:Value) (n:Nat) (xs:List Value) (hs:a.eval s=v) (hown:w.ownsRow base e size v n xs) (hx:a.eval x= .slice none 0 0)
  (h:wpList P ops Q rest (a.put o.dst v) w):wpList P ops Q (o::rest) a w:=by
 refine wpList_plain hgd fun K hK=> ?_
 have hr:=run_append_owned_none (P:=P) w base t o.type e i size ht hi v n xs hown
 unfold Oper.wp execOp
 simp only[ho,resolve,invoke,builtin,Sem.run_bind,Sem.run_pure,Result.andThen_ok,List.map_toArray,List.map_cons,List.map_nil,hs,hx,hr]
 exact hK _ _ h
theorem bn {w:World} {base:Nat} {e:TypeId} {size:Nat} {v:Value} {n:Nat} {xs:List Value} (h:w.ownsRow base e size v n xs) {k:Nat} (hk:v.ownBlock=some k):base<=k/\k<w.heap.size:=by
 rcases h.2 with ⟨rfl,_⟩|⟨g',cap,cur,rfl,hb,hg,_⟩
 ·cases hk
 ·simp[Value.ownBlock] at hk
  subst hk
  exact⟨hb,(Array.getElem?_eq_some_iff.1 hg).1⟩
theorem bf {w:World} {base:Nat} {e:TypeId} {size:Nat} {v:Value} {n:Nat} {xs:List Value} (h:w.ownsRow base e size v n xs): ∃a c,v= .slice a n c:=by
 rcases h.2 with ⟨rfl,rfl⟩|⟨g',cap,cur,rfl,_⟩
 ·exact⟨_,_,rfl⟩
 ·exact⟨_,_,rfl⟩
theorem xJ {w:World} {base base':Nat} {e:TypeId} {size:Nat} {v:Value} {n:Nat} {xs:List Value} (h:w.ownsRow base e size v n xs) (hb:base'<=base):w.ownsRow base' e size v n xs:=by
 refine⟨h.1,?_⟩
 rcases h.2 with hn|⟨g,cap,cur,e,h0,rest⟩
 ·exact .inl hn
 ·exact .inr ⟨g,cap,cur,e,yX0 hb h0,rest⟩
theorem cw {w w':World} {base:Nat} {e:TypeId} {size:Nat} {v:Value} {n:Nat} {xs:List Value} (h:w.ownsRow base e size v n xs) (hk: ∀k,v.ownBlock=some k->w'.heap[k]? =w.heap[k]?):w'.ownsRow base e size v n xs:=by
 refine⟨h.1,?_⟩
 rcases h.2 with hn|⟨g,cap,cur,rfl,h0,hg,rest⟩
 ·exact .inl hn
 ·exact .inr ⟨g,cap,cur,rfl,h0,by rw[hk g rfl];exact hg,rest⟩
theorem kN {w w':World} {base:Nat} {e:TypeId} {size:Nat} {v:Value} {n:Nat} {xs:List Value} (h:w.ownsRow base e size v n xs) (hb:Below w.heap.size w w'):w'.ownsRow base e size v n xs:=
 cw h (fun k hk=>hb.block k (bn h hk).2)
theorem cK (w:World) {ops:Array Oper} {rest:List Oper} {o:Oper} {a:Act} {Q:Exit->Act->World->Prop} (hgd:o.guard=none) (s x:Operand)
  (ho:o.op= .call {callee:= .builtin .append,args:= #[s,x],argTypes:= #[57,57]})
  (base base2:Nat) (v u:Value) (n m:Nat) (xs ys:List Value) (hs:a.eval s=v) (hown:w.ownsRow base 3 1 v n xs) (hx:a.eval x=u) (hu:w.ownsRow base2 3 1 u m ys) (h1: ∀u∈ys,u.oneCell'=true)
  (hnm:n+m<=100000) (hbase:base<=w.heap.size)
  (h: ∀v' w',w'.ownsRow base 3 1 v' (n+m) (xs++ys)->w.grownBy w' v.ownBlock->wpList Tryz.prog ops Q rest (a.put o.dst v') w'):wpList Tryz.prog ops Q (o::rest) a w:=by
 obtain⟨i0,hi,hz0,hz1,hz2⟩:=info_parts du
 rcases hu.2 with ⟨rfl,rfl⟩|⟨g,cap,cur,rfl,_⟩
 ·have hys:ys=[]:=List.length_eq_zero_iff.1 (by have:=hu.1;omega)
  subst hys
  refine jQ w hgd s x 57 ho base 3 i0 1 Tryz.underlying57 hi v n xs hs hown hx ?_
  have:=h v w (by simpa using hown) ⟨rfl,rfl,rfl,i8 _,fun _ _ _=>rfl⟩
  exact this
 ·refine wpList_append_own w hgd s x 57 ho base 3 i0 (.int .i64 0) 1 8 Tryz.underlying57 hi hz0 hz1 hz2 rfl (by decide) v n xs hs hown ⟨g,0,none⟩ m cap ys hx (by have:=hu.1;omega) (hu.cells rfl) h1 (by unfold maxLen;omega) (by omega) hbase ?_
  intro v' w' q1 q2 _
  exact h v' w' q1 q2
def iv (xs:List Nat):List Value:=xs.map (fun (x:Nat)=>Value.int .i64 ((x:Int)-1))
theorem qw (xs:List Nat): ∀u∈iv xs,u.oneCell'=true:=fun u hu=>by
 obtain⟨x,_,rfl⟩:=List.mem_map.1 hu
 rfl
theorem ga (xs ys:List Nat):iv (xs++ys)=iv xs++iv ys:=by simp[iv]
theorem rE (w:World) (x:Value) (t:TypeId): ∀j u,[x][j]? =some u->(w.alloc (.cells #[x] t)).cell? ((⟨w.heap.size,0,none⟩:Addr).add j)=some u:=by
 intro j u h
 have hj:j<1:=by
  rcases Nat.lt_or_ge j 1 with q|q
  ·exact q
  ·rw[List.getElem?_eq_none (by simpa using q)] at h;cases h
 obtain rfl:j=0:=by omega
 simp at h
 subst h
 simp[Addr.add]
def ft (xs:List Nat) (v:Nat):Nat:=if v=0 then 0 else xs.length+1-pos xs v
section
variable {w:World} {b g n nw ct f l:Nat} {fm:Value} {F L A B E:Nat->Nat} {T:Nat->Bool} {xs:List Nat}
theorem yJ (h:aB w b g n nw ct fm F L A B E T) (hL:lO A B f l xs) (h0: ∀p∈xs,p≠0/\p<=n) (hnd:xs.Nodup) (hn:n<=1024) (hlen:xs.length<=1024):
  Calls Tryz.prog 132 #[.pointer (some ⟨b,0,none⟩),.agg #[.int .i64 (f:Int),.int .i64 (l:Int)]] w fun e w'=>(∃v,e= .returned v/\w'.ownsRow w.heap.size 3 1 v xs.length (iv xs))/\Below w.heap.size w w':=by
 obtain⟨i0,hi,hz0,hz1,hz2⟩:=info_parts du
 have hbb:=h.bS
 have hgg:=h.cY
 have HR:=aa h
 have HL:=aa hL
 have H0:=aa h0
 have HN:=aa hnd
 have HF:Hid (f=hz xs):=hL.f
 clear h hL h0 hnd
 go_enter Tryz.func132,Tryz.ntmps132
 go_wp2
 go_loopw [5,6] (fun v s wr=> ∃P Q,xs=P++Q/\s= .int .i64 ((hz Q:Nat):Int)/\Below w.heap.size w wr/\wr.ownsRow w.heap.size 3 1 v P.length (iv P)) (fun _ s _=>ft xs (intOf s).toNat)
 case atStart=>exact⟨[],xs,rfl,by rw[←HF.out],(z9 _ _).alloc (i8 _) _,World.ownsRow_nil _ _ _ _⟩
 case round=>
  obtain⟨P,Q,hq,rfl,hbel,hown⟩:=hrel
  obtain⟨av,cv,rfl⟩:=bf hown
  have HB:=aa hbel
  have HO:=aa hown
  have hsz:=hbel.size
  have HQ:=aa hq
  clear hbel hown hq
  match Q,HQ with
  |[],HQ=>
   have hx:xs=P:=by rw[HQ.out];simp
   have HE:Hid (wr.ownsRow w.heap.size 3 1 (.slice av P.length cv) xs.length (iv xs)):=by rw[hx];exact HO.out
   clear hx
   go_wp2
   go_ret
   exact⟨⟨_,rfl,HE.out⟩,HB.out⟩
  |y::Q,HQ=>
   have hxe:xs=P++y::Q:=HQ.out
   have hy:=H0.out y (by rw[hxe];simp)
   have hnd:=HN.out
   have hl:=HL.out
   rw[hxe] at hnd hl
   have hB:B y=hz Q:=hl.Ha.2
   have HM:Hid (ft xs (hz Q)<ft xs y):=by
    show _<_
    rw[hxe]
    unfold ft
    rw[if_neg hy.1,jL _ _ _ hnd]
    split
    ·simp
    ·rename_i e
     match Q,e,hnd with
     |[],e,_=>exact absurd rfl e
     |z::Q,e,hnd=>
      have e2:P++y::z::Q=(P++[y])++z::Q:=by simp
      rw[e2] at hnd⊢
      show _-pos _ z<_
      rw[jL _ _ _ hnd]
      simp
      omega
   have HX:Hid (xs=(P++[y])++Q):=by show _=_;rw[hxe];simp
   have e1:=HR.out.eb y hy.2
   rw[hB] at e1
   obtain⟨cp,e0⟩:=HR.out.en
   have E0:=aa e0
   have E1:=aa e1
   have x0: ¬(y:Int)=0:=by have:=hy.1;omega
   have xl:y<n+1:=by have:=hy.2;omega
   have xb:y<=1024:=by have:=hy.2;omega
   have hp:P.length<=1024:=by rw[hxe] at hlen;simp at hlen;omega
   have hy1:IntKind.i64.wrap ((y:Int)-1)=(y:Int)-1:=by simp[IntKind.wrap,IntKind.bits,IntKind.signed];omega
   obtain⟨z,hz'⟩: ∃z,hz Q=z:=⟨_,rfl⟩
   rw[hz'] at E1 HM
   have HZ:=aa hz'
   have hhd:hz (y::Q)=y:=rfl
   rw[hhd]
   clear hxe hy hnd hl hB e1 e0 hz' hhd
   go_wp2_with (at_builtin;refine wpList_append_own _ rfl _ _ 57 rfl w.heap.size 3 i0 (.int .i64 0) 1 8 Tryz.underlying57 hi hz0 hz1 hz2 rfl (by decide) (.slice av P.length cv) P.length (iv P) rfl (by exact HO.out.alloc _) ⟨wr.heap.size,0,none⟩ 1 1 [.int .i64 ((y:Int)-1)] rfl rfl (rE _ _ _) (by simp[Value.oneCell']) (by unfold maxLen;omega) (by omega) (by simp;omega) ?_;intro v' w1 hown' hgrow _;have hb1:=(HB.out.alloc HB.out.size _).grown hgrow (by simp;omega) (fun k hk=>(bn HO.out hk).1);have y0:=(hb1.cell (p:=⟨b,130,none⟩) hbb).trans E0.out;have y1:=(hb1.cell (p:=⟨g,y*4+1,none⟩) hgg).trans E1.out;obtain⟨av',cv',rfl⟩:=bf hown';have HO':=aa hown';have HB1:=aa hb1;clear hown' hgrow hb1)
   go_roundw
   case rel=>exact⟨P++[y],Q,HX.out,by rw[HZ.out],HB1.out,by rw[ga,List.length_append];exact HO'.out⟩
   case measure=>simp[intOf];exact HM.out
end
theorem yG (m:Nat):(Builtin.zeroCells (Value.agg #[.int .i64 0,.int .i64 0]).cells m).toList=List.replicate (m*2) (Value.int .i64 0):=by
 unfold Builtin.zeroCells
 apply List.ext_getElem?
 intro i
 have e:(Value.agg #[.int .i64 0,.int .i64 0]).cells= #[Value.int .i64 0,.int .i64 0]:=rfl
 rw[e]
 by_cases hi:i<m*2
 ·have h2:i%2=0\/i%2=1:=by omega
  rcases h2 with h2|h2<;>simp[hi,h2,List.getElem?_replicate]
 ·rw[List.getElem?_eq_none (by simp;omega),List.getElem?_eq_none (by simp;omega)]
def gN (m:Nat) (F:Nat->Nat):Nat->Nat:=fun s=>if s<m then 0 else F s
section
variable {w:World} {b g n nw ct mb s:Nat} {fm:Value} {F L A B E:Nat->Nat} {T:Nat->Bool} {fr:Int->Option (Nat×Nat)} {S:List It}
theorem vR (h:aB w b g n nw ct fm F L A B E T) (m:Nat) (h1:0<m) (hm:m<=64): ∃W1,(∀ty,(Builtin.clear_ #[232] ty #[.slice (some ⟨b,1,none⟩) m 64]).run Tryz.prog w= .ok (.tuple #[]) W1)/\aB W1 b g n nw ct fm (gN m F) (gN m L) A B E T/\aG b g w W1/\W1.heap.size=w.heap.size:=by
 have hlen:(List.replicate (m*2) (Value.int .i64 0)).length=m*2:=by simp
 have hsome: ∀j,j<m*2->(w.cell? ⟨b,1+j,none⟩).isSome=true:=fun j hj=>by
  by_cases e:j%2=0
  ·rw[show 1+j=1+j/2*2 by omega,h.sf (j/2) (by omega)];rfl
  ·rw[show 1+j=1+j/2*2+1 by omega,h.sl (j/2) (by omega)];rfl
 have hin: ∀j,j<m*2->(w.setCells b 1 (List.replicate (m*2) (.int .i64 0))).cell? ⟨b,1+j,none⟩=some (.int .i64 0):=fun j hj=>by
  have:=World.cell?_setCells_in b (List.replicate (m*2) (Value.int .i64 0)) 1 w (fun j hj=>hsome j (by simpa using hj)) j (by simpa using hj)
  rw[this]
  simp
 have hout: ∀o,(o<1\/1+m*2<=o)->(w.setCells b 1 (List.replicate (m*2) (.int .i64 0))).cell? ⟨b,o,none⟩=w.cell? ⟨b,o,none⟩:=fun o ho=>World.cell?_setCells_out b _ 1 w ⟨b,o,none⟩ (fun _ _=>by simpa using ho)
 have hoth: ∀o,(w.setCells b 1 (List.replicate (m*2) (.int .i64 0))).cell? ⟨g,o,none⟩=w.cell? ⟨g,o,none⟩:=fun o=>World.cell?_setCells_out b _ 1 w ⟨g,o,none⟩ (fun e _=>absurd e.symm h.bg)
 have hfz: ∀x,(w.setCells b 1 (List.replicate (m*2) (.int .i64 0))).frozen? x=w.frozen? x:=fun x=>World.frozen?_setCells b _ 1 w x
 have hsz: ∀(vs:List Value) (o:Nat) (w:World),(w.setCells b o vs).heap.size=w.heap.size:=by
  intro vs
  induction vs with
  |nil=>intro o w;rfl
  |cons v r ih=>intro o w;show((w.setCell ⟨b,o,none⟩ v).setCells b (o+1) r).heap.size=_;rw[ih];simp
 have hon: ∀(vs:List Value) (o:Nat) (w':World),aG b g w w'->aG b g w (w'.setCells b o vs):=by
  intro vs
  induction vs with
  |nil=>intro o w' q;exact q
  |cons v r ih=>intro o w' q;exact ih (o+1) _ (q.set _ _ (Or.inl rfl))
 refine⟨w.setCells b 1 (List.replicate (m*2) (.int .i64 0)),fun ty=> ?_,?_,hon _ _ _ (aG.refl b g w),hsz _ _ _⟩
 ·have hst:=run_storeCells_cells (P:=Tryz.prog) b 1 (List.replicate (m*2) (.int .i64 0)) 0 w (fun j hj=>hsome j (by simpa using hj)) (fun j _=>h.fb _) (fun v hv=>by rw[List.eq_of_mem_replicate hv];rfl)
  have hz: ∀w,(zeroValue 155).run Tryz.prog w= .ok (.agg #[.int .i64 0,.int .i64 0]) w:=fun w=>by kernel_rfl
  have hc:=yG m
  have hst':(storeCells ⟨b,1,none⟩ (List.replicate (m*2) (.int .i64 0))).run Tryz.prog w= .ok () (w.setCells b 1 (List.replicate (m*2) (.int .i64 0))):=hst
  clear hst hin hout hoth hfz hsome hlen hsz hon
  generalize w.setCells b 1 (List.replicate (m*2) (.int .i64 0))=W1 at*
  generalize List.replicate (m*2) (Value.int .i64 0)=R at*
  obtain⟨m,rfl⟩: ∃k,m=k+1:=⟨m-1,by omega⟩
  simp[Builtin.clear_,run_underlying Tryz.underlying232,hz,hc,hst']
 ·refine⟨h.bg,?_,?_,?_,?_,fun x hx=> ?_,fun x hx=> ?_,fun x hx=> ?_,fun x hx=> ?_,fun x hx=> ?_,fun x hx=> ?_,fun o=> ?_,fun o=> ?_⟩
  ·obtain⟨cp,q⟩:=h.en
   exact⟨cp,by rw[hout 130 (by omega)];exact q⟩
  ·rw[hout 0 (by omega)];exact h.tn
  ·rw[hout 129 (by omega)];exact h.tm
  ·rw[hout 131 (by omega)];exact h.tc
  ·unfold gN
   by_cases e:x<m
   ·rw[if_pos e,hin (x*2) (by omega)];rfl
   ·rw[if_neg e,hout (1+x*2) (by omega)];exact h.sf x hx
  ·unfold gN
   by_cases e:x<m
   ·rw[if_pos e,show 1+x*2+1=1+(x*2+1) by omega,hin (x*2+1) (by omega)];rfl
   ·rw[if_neg e,hout (1+x*2+1) (by omega)];exact h.sl x hx
  ·rw[hoth];exact h.ea x hx
  ·rw[hoth];exact h.eb x hx
  ·rw[hoth];exact h.ee x hx
  ·rw[hoth];exact h.et x hx
  ·rw[hfz];exact h.fb o
  ·rw[hfz];exact h.fg o
theorem qT (h:ji S) (lo m:Nat):(eY nw S lo m).length<=S.length:=by
 rw[pA h]
 exact List.length_filter_le _ _
theorem E7 (xs:List Nat):(iv xs).length=xs.length:=by simp[iv]
theorem rD (h:aB w b g n nw ct fm F L A B E T) (hi:Inv n nw ct F L fr A B E T S) (hn:n<=1024) (to m:Nat) (ht:to<18446744073709551616) (hm:m=if to/64=nw/64 then to%64+1 else 64):
  Calls Tryz.prog 81 #[.pointer (some ⟨b,0,none⟩),.int .u64 (to:Int)] w fun e w'=>(∃v,e= .returned v/\w'.ownsRow w.heap.size 3 1 v (eY nw S (nw/64*64) m).length (iv (ai (eY nw S (nw/64*64) m))))/\aB w' b g n nw ct fm (gN m F) (gN m L) A B E T/\aG b g w w':=by
 have e0:=h.tn
 have hbb:=h.bS
 have hgl:=h.cY
 have hm64:m<=64:=by rw[hm];split<;>omega
 have hm1:0<m:=by rw[hm];split<;>omega
 have HT1:=aa (cm to ht)
 have HT2:=aa (cm nw hi.hw)
 have HB:Hid (∀w1,Below w.heap.size w w1->aB w1 b g n nw ct fm F L A B E T):=fun w1 hb=>h.below hb
 have HLen:=aa hi.bW
 have HU:=aa (fun j=>qT (nw:=nw) hi.srt (nw/64*64) j)
 have HId:Hid (∀j,j<64-> ∀W,aB W b g n nw ct fm F L A B E T->Calls Tryz.prog 132 #[.pointer (some ⟨b,0,none⟩),.agg #[.int .i64 (F j:Int),.int .i64 (L j:Int)]] W fun e w'=>(∃v,e= .returned v/\w'.ownsRow W.heap.size 3 1 v (dS nw S (nw/64*64+j)).length (iv (ai (dS nw S (nw/64*64+j)))))/\Below W.heap.size W w'):=fun j hj W hW=>by
  have hl:=hi.slot j hj
  have hlt:(dS nw S (nw/64*64+j)).length<=S.length:=List.length_filter_le _ _
  have:=hi.bW
  have q:=yJ hW hl (fun p hp=>by
   obtain⟨y,hy,rfl⟩:=bX.1 hp
   have:=hi.lt y (da.1 hy).1
   omega) (jB (nO hi.nd)) hn (by rw[cC];omega)
  rwa [cC] at q
 have HEnd:Hid (∀W v,Below w.heap.size w W->W.ownsRow w.heap.size 3 1 v (eY nw S (nw/64*64) m).length (iv (ai (eY nw S (nw/64*64) m)))-> ∃W1,(∀ty,(Builtin.clear_ #[232] ty #[.slice (some ⟨b,1,none⟩) m 64]).run Tryz.prog W= .ok (.tuple #[]) W1)/\Hid (W1.ownsRow w.heap.size 3 1 v (eY nw S (nw/64*64) m).length (iv (ai (eY nw S (nw/64*64) m)))/\aB W1 b g n nw ct fm (gN m F) (gN m L) A B E T/\aG b g w W1)):=fun W v hb ho=>by
  obtain⟨W1,hcl,hr1,ho1,_⟩:=vR (h.below hb) m hm1 hm64
  refine⟨W1,hcl,cw ho (fun k hk=>ho1.block k (bn ho hk).2 (by have:=(bn ho hk).1;omega) (by have:=(bn ho hk).1;omega)),hr1,(aG.gw hb).trans ho1⟩
 by_cases htn:to/64=nw/64
 ·rw[if_pos htn] at hm
  have hq:((nw/64:Nat):Int)=((to/64:Nat):Int):=by omega
  rw[hq] at HT2
  obtain⟨r,hr⟩: ∃r:Nat,to%64=r:=⟨_,rfl⟩
  rw[hr] at hm
  have hr64:r<64:=by omega
  have hmr:(m:Int)=(r:Int)+1:=by omega
  have hto:(to:Int)%64=(r:Int):=by omega
  have hto2:IntKind.u64.wrap ((to:Int)%64)=(r:Int):=by rw[hto];simp[IntKind.wrap,IntKind.bits,IntKind.signed];omega
  have hto3:IntKind.u64.wrap ((r:Int)+1)=(m:Int):=by rw[hmr];simp[IntKind.wrap,IntKind.bits,IntKind.signed];omega
  have hm0:(m:Int)<=64:=by omega
  clear h hi htn hq hm hmr
  generalize ((to/64:Nat):Int)=q1 at*
  go_enter Tryz.func81,Tryz.ntmps81
  go_wp2
  go_region_held3 (fun w'=>w'.cell? ⟨b,0,none⟩=some (.int .u64 (nw:Int))) (go_keep)
   (first
    |(go_at_call 82;first
      |(refine(HT1.out _).mono ?_;rintro e w1 ⟨rfl,hw⟩;subst hw)
      |(refine(HT2.out _).mono ?_;rintro e w1 ⟨rfl,hw⟩;subst hw)))
  go_wp2
  clear hto hto2 hto3
  go_loopw [6,30] (fun o i wr=> ∃j:Nat,j<=m/\i= .int .i64 j/\Below w.heap.size w wr/\wr.ownsRow w.heap.size 3 1 o (eY nw S (nw/64*64) j).length (iv (ai (eY nw S (nw/64*64) j)))) (fun _ i _=>m-(intOf i).toNat)
  case atStart=>exact⟨0,by omega,rfl,(z9 _ _).drew,World.ownsRow_nil _ _ _ _⟩
  case round=>
   obtain⟨j,hj,rfl,hbel,hown⟩:=hrel
   obtain⟨av,cv,rfl⟩:=bf hown
   have HBE:=aa hbel
   have HO:=aa hown
   have hsz:=hbel.size
   by_cases hj5:j<m
   ·have hr:=HB.out _ hbel
    have e1:=hr.sf j (by omega)
    have e2:=hr.sl j (by omega)
    have hbb2:=hr.bS
    have y1: ¬b=wr.heap.size:=by omega
    have HR:=aa hr
    have HI:=aa (HId.out j (by omega))
    have HL1:=HLen.out
    have HL2:=HU.out j
    have HL3:(dS nw S (nw/64*64+j)).length<=S.length:=List.length_filter_le _ _
    have HEQ:Hid (eY nw S (nw/64*64) (j+1)=eY nw S (nw/64*64) j++dS nw S (nw/64*64+j)):=rfl
    generalize eY nw S (nw/64*64) j=U at*
    generalize dS nw S (nw/64*64+j)=G at*
    have hjb:(j:Int)<(m:Int):=by omega
    generalize F j=fj at*
    generalize L j=lj at*
    clear hr hbel hown HId HU HEnd HB HT1 HT2
    go_wp2_with (first
     |(go_at_call 132;refine(HI.out _ (by exact HR.out.alloc _)).mono ?_;rintro e w5 ⟨⟨v5,rfl,ho5⟩,hb5⟩;obtain⟨a5,c5,rfl⟩:=bf ho5;have HO5:=aa ho5;have HV5:=aa (kN (HO.out.alloc _) hb5);have HB5:=aa ((HBE.out.alloc HBE.out.size _).trans (hb5.mono (by simp;omega)));clear ho5 hb5)
     |(at_builtin;refine cK _ rfl _ _ rfl w.heap.size _ _ _ _ _ _ _ rfl HV5.out rfl HO5.out (qw _) (by omega) HB5.out.size ?_;intro v' w6 hown' hgrow;obtain⟨a6,c6,rfl⟩:=bf hown';have HO6:=aa hown';have HB6:=aa (HB5.out.grown hgrow HB5.out.size (fun k hk=>(bn HO.out hk).1));clear hown' hgrow))
    go_roundw
    case rel=>exact⟨j+1,by omega,by go_num,HB6.out,by rw[HEQ.out,dc,ga,List.length_append];exact HO6.out⟩
    case measure=>simp[intOf];omega
   ·obtain rfl:m=j:=by omega
    obtain⟨W1,hcl,HX⟩:=HEnd.out wr _ hbel hown
    clear hbel hown HB HId HU HO HEnd HT1 HT2
    go_wp2
    go_ret
    exact⟨⟨_,rfl,HX.out.1⟩,HX.out.2⟩
 ·rw[if_neg htn] at hm
  subst hm
  have hne: ¬((to/64:Nat):Int)=((nw/64:Nat):Int):=by omega
  have hneb:(((to/64:Nat):Int)==((nw/64:Nat):Int))=false:=by simp;omega
  generalize ((to/64:Nat):Int)=q1 at*
  generalize ((nw/64:Nat):Int)=q2 at*
  clear h hi htn
  go_enter Tryz.func81,Tryz.ntmps81
  go_wp2
  go_region_held3 (fun w'=>w'.cell? ⟨b,0,none⟩=some (.int .u64 (nw:Int))) (go_keep)
   (first
    |(go_at_call 82;first
      |(refine(HT1.out _).mono ?_;rintro e w1 ⟨rfl,hw⟩;subst hw)
      |(refine(HT2.out _).mono ?_;rintro e w1 ⟨rfl,hw⟩;subst hw)))
  go_wp2
  go_loopw [6,30] (fun o i wr=> ∃j:Nat,j<=64/\i= .int .i64 j/\Below w.heap.size w wr/\wr.ownsRow w.heap.size 3 1 o (eY nw S (nw/64*64) j).length (iv (ai (eY nw S (nw/64*64) j)))) (fun _ i _=>64-(intOf i).toNat)
  case atStart=>exact⟨0,by omega,rfl,(z9 _ _).drew,World.ownsRow_nil _ _ _ _⟩
  case round=>
   obtain⟨j,hj,rfl,hbel,hown⟩:=hrel
   obtain⟨av,cv,rfl⟩:=bf hown
   have HBE:=aa hbel
   have HO:=aa hown
   have hsz:=hbel.size
   by_cases hj5:j<64
   ·have hr:=HB.out _ hbel
    have e1:=hr.sf j (by omega)
    have e2:=hr.sl j (by omega)
    have hbb2:=hr.bS
    have y1: ¬b=wr.heap.size:=by omega
    have HR:=aa hr
    have HI:=aa (HId.out j (by omega))
    have HL1:=HLen.out
    have HL2:=HU.out j
    have HL3:(dS nw S (nw/64*64+j)).length<=S.length:=List.length_filter_le _ _
    have HEQ:Hid (eY nw S (nw/64*64) (j+1)=eY nw S (nw/64*64) j++dS nw S (nw/64*64+j)):=rfl
    generalize eY nw S (nw/64*64) j=U at*
    generalize dS nw S (nw/64*64+j)=G at*
    have hjb:(j:Int)<64:=by omega
    generalize F j=fj at*
    generalize L j=lj at*
    clear hr hbel hown HId HU HEnd HB HT1 HT2
    go_wp2_with (first
     |(go_at_call 132;refine(HI.out _ (by exact HR.out.alloc _)).mono ?_;rintro e w5 ⟨⟨v5,rfl,ho5⟩,hb5⟩;obtain⟨a5,c5,rfl⟩:=bf ho5;have HO5:=aa ho5;have HV5:=aa (kN (HO.out.alloc _) hb5);have HB5:=aa ((HBE.out.alloc HBE.out.size _).trans (hb5.mono (by simp;omega)));clear ho5 hb5)
     |(at_builtin;refine cK _ rfl _ _ rfl w.heap.size _ _ _ _ _ _ _ rfl HV5.out rfl HO5.out (qw _) (by omega) HB5.out.size ?_;intro v' w6 hown' hgrow;obtain⟨a6,c6,rfl⟩:=bf hown';have HO6:=aa hown';have HB6:=aa (HB5.out.grown hgrow HB5.out.size (fun k hk=>(bn HO.out hk).1));clear hown' hgrow))
    go_roundw
    case rel=>exact⟨j+1,by omega,by go_num,HB6.out,by rw[HEQ.out,dc,ga,List.length_append];exact HO6.out⟩
    case measure=>simp[intOf];omega
   ·obtain rfl:j=64:=by omega
    obtain⟨W1,hcl,HX⟩:=HEnd.out wr _ hbel hown
    clear hbel hown HB HId HU HO HEnd HT1 HT2
    go_wp2
    go_ret
    exact⟨⟨_,rfl,HX.out.1⟩,HX.out.2⟩
end
def fE (W:World) (r cap n:Nat) (D:Nat->Nat):Prop:= ∃cur:Array Value,W.heap[r]? =some (.cells cur 25 (0,0))/\cur.size=cap/\ ∀j,j<n->cur[j]? =some (.int .u64 (D j:Int))
def swp (D:Nat->Nat) (j:Nat):Nat->Nat:=au (au D j (D (j-1))) (j-1) (D j)
section
variable {W W':World} {r cap n:Nat} {D D':Nat->Nat}
theorem fE.lt (h:fE W r cap n D):r<W.heap.size:=by obtain⟨cur,h1,_⟩:=h;exact(Array.getElem?_eq_some_iff.1 h1).1
theorem fE.cell (h:fE W r cap n D) (j:Nat) (hj:j<n):W.cell? ⟨r,j,none⟩=some (.int .u64 (D j:Int)):=by
 obtain⟨cur,h1,_,h3⟩:=h
 unfold World.cell?
 simp only[h1]
 simpa using h3 j hj
theorem fE.frozen (h:fE W r cap n D) (j:Nat):W.frozen? ⟨r,j,none⟩=false:=by
 obtain⟨cur,h1,_⟩:=h
 unfold World.frozen?
 simp only[h1]
 simp
theorem fE.kept (h:fE W r cap n D) (hb:W'.heap[r]? =W.heap[r]?):fE W' r cap n D:=by
 obtain⟨cur,h1,h2⟩:=h
 exact⟨cur,by rw[hb];exact h1,h2⟩
theorem fE.set (h:fE W r cap n D) (j v:Nat) (hj:j<n):fE (W.setCell ⟨r,j,none⟩ (.int .u64 (v:Int))) r cap n (au D j v):=by
 obtain⟨cur,h1,h2,h3⟩:=h
 refine⟨_,Go.Joins.block_setCell h1 _,by simpa using h2,fun k hk=> ?_⟩
 have hjc:j<cur.size:=by
  have:=h3 j hj
  exact(Array.getElem?_eq_some_iff.1 this).1
 by_cases e:k=j
 ·subst e
  rw[aj,Array.getElem?_setIfInBounds_self_of_lt hjc]
 ·rw[af _ _ _ _ e,Array.getElem?_setIfInBounds_ne (fun q=>e q.symm)]
  exact h3 k hk
end
structure sP (n i j:Nat) (D0 D:Nat->Nat):Prop where
 inj: ∀a c,a<n->c<n->D a=D c->a=c
 mem: ∀v,(∃a,a<n/\D a=v)↔ ∃a,a<n/\D0 a=v
 srt: ∀a c,a<c->c<=i->a≠j->c≠j->D a<D c
 low: ∀c,j<c->c<=i->D j<D c
theorem sP.step {n i j:Nat} {D0 D:Nat->Nat} (h:sP n i j D0 D) (hi:i<n) (hj:0<j) (hji:j<=i) (hlt:D j<D (j-1)):sP n i (j-1) D0 (swp D j):=by
 have e1:swp D j (j-1)=D j:=aj _ _ _
 have e2:swp D j j=D (j-1):=by unfold swp;rw[af _ _ _ _ (by omega),aj]
 have e3: ∀a,a≠j->a≠j-1->swp D j a=D a:=fun a h1 h2=>by unfold swp;rw[af _ _ _ _ h2,af _ _ _ _ h1]
 have hcase: ∀a,a=j\/a=j-1\/(a≠j/\a≠j-1):=fun a=>by omega
 refine⟨fun a c ha hc e=> ?_,fun v=> ?_,fun a c hac hci ha hc=> ?_,fun c hc hci=> ?_⟩
 ·rcases hcase a with rfl|rfl|⟨a1,a2⟩<;>rcases hcase c with rfl|rfl|⟨c1,c2⟩
  ·rfl
  ·rw[e1,e2] at e;have:=h.inj _ _ hc ha e;omega
  ·rw[e2,e3 c c1 c2] at e;have:=h.inj _ _ (by omega) hc e;omega
  ·rw[e1,e2] at e;have:=h.inj _ _ hc ha e;omega
  ·rfl
  ·rw[e1,e3 c c1 c2] at e;have:=h.inj _ _ (by omega) hc e;omega
  ·rw[e2,e3 a a1 a2] at e;have:=h.inj _ _ ha (by omega) e;omega
  ·rw[e1,e3 a a1 a2] at e;have:=h.inj _ _ ha (by omega) e;omega
  ·rw[e3 a a1 a2,e3 c c1 c2] at e;exact h.inj _ _ ha hc e
 ·rw[←h.mem v]
  constructor
  ·rintro⟨a,ha,e⟩
   rcases hcase a with rfl|rfl|⟨a1,a2⟩
   ·exact⟨a-1,by omega,by rw[←e,e2]⟩
   ·exact⟨j,by omega,by rw[←e,e1]⟩
   ·exact⟨a,ha,by rw[←e,e3 a a1 a2]⟩
  ·rintro⟨a,ha,e⟩
   rcases hcase a with rfl|rfl|⟨a1,a2⟩
   ·exact⟨a-1,by omega,by rw[←e];exact e1⟩
   ·exact⟨j,by omega,by rw[←e,e2]⟩
   ·exact⟨a,ha,by rw[←e,e3 a a1 a2]⟩
 ·rcases hcase a with rfl|q|⟨a1,a2⟩
  ·rw[e2,e3 c (by omega) (by omega)];exact h.srt _ _ (by omega) hci (by omega) (by omega)
  ·exact absurd q ha
  ·rcases hcase c with rfl|q|⟨c1,c2⟩
   ·rw[e2,e3 a a1 a2];exact h.srt _ _ (by omega) (by omega) a1 (by omega)
   ·exact absurd q hc
   ·rw[e3 a a1 a2,e3 c c1 c2];exact h.srt _ _ hac hci a1 c1
 ·rw[e1]
  by_cases e:c=j
  ·subst e;rw[e2];exact hlt
  ·rw[e3 c e (by omega)];exact h.low c (by omega) hci
theorem sP.done {n i j:Nat} {D0 D:Nat->Nat} (h:sP n i j D0 D) (hi:i<n) (hji:j<=i) (hj:j=0\/ ¬D j<D (j-1)): ∀a c,a<c->c<=i->D a<D c:=by
 intro a c hac hci
 by_cases h1:a=j
 ·subst h1;exact h.low c hac hci
 ·by_cases h2:c=j
  ·subst h2
   rcases hj with q|q
   ·omega
   ·have hne:D (c-1)≠D c:=fun e=>by have:=h.inj _ _ (by omega) (by omega) e;omega
    by_cases h3:a=c-1
    ·subst h3;omega
    ·have:=h.srt a (c-1) (by omega) (by omega) h1 (by omega);omega
  ·exact h.srt a c hac hci h1 h2
theorem yr (x:Int) (W:World):Calls Tryz.prog 222 #[.int .u64 x] W fun e w'=>e= .returned (.bool false)/\w'=W:=by
 go_enter Tryz.func222,Tryz.ntmps222
 go_wp2
 go_ret
 exact⟨by simp,rfl⟩
theorem CC (x y:Int) (W:World):Calls Tryz.prog 202 #[.int .u64 x,.int .u64 y] W fun e w'=>e= .returned (.bool (decide (x<y)))/\w'=W:=by
 have H:=aa (fun x W=>yr x W)
 go_enter Tryz.func202,Tryz.ntmps202
 go_wp2_with (first
  |(go_at_call 222;refine(H.out _ _).mono ?_;rintro e w1 ⟨rfl,hw⟩;subst hw))
 go_ret
 exact⟨rfl,rfl⟩
theorem pY (W:World) (r cap n:Nat) (D:Nat->Nat) (h:fE W r cap n D) (hn:n<=100000) (hinj: ∀a c,a<n->c<n->D a=D c->a=c):
  Calls Tryz.prog 196 #[.slice (some ⟨r,0,none⟩) n cap,.int .i64 0,.int .i64 (n:Int)] W fun e w'=>e= .returned (.tuple #[])/\ ∃D',fE w' r cap n D'/\(∀v,(∃a,a<n/\D' a=v)↔ ∃a,a<n/\D a=v)/\(∀a c,a<c->c<n->D' a<D' c)/\Fr (fun k=>k=r) W w':=by
 have HL:=aa (fun x y W=>CC x y W)
 have HI0:=aa hinj
 have H0:=aa h
 clear h hinj
 go_enter Tryz.func196,Tryz.ntmps196
 go_wp2
 go_loopw [6] (fun iv wr=> ∃(i:Nat) (D':Nat->Nat),1<=i/\(i<=n\/i=1)/\iv= .int .i64 (i:Int)/\fE wr r cap n D'/\(∀a c,a<n->c<n->D' a=D' c->a=c)/\(∀v,(∃a,a<n/\D' a=v)↔ ∃a,a<n/\D a=v)/\(∀a c,a<c->c<i->c<n->D' a<D' c)/\Fr (fun k=>k=r) W wr) (fun iv _=>n-(intOf iv).toNat)
 case atStart=>exact⟨1,D,by omega,.inr rfl,rfl,H0.out,HI0.out,fun v=>Iff.rfl,fun a c h1 h2 _=>by omega,Fr.refl _ _⟩
 case round=>
  obtain⟨i,D1,h1,h2,rfl,hrow,hinj,hmem,hsrt,hfr⟩:=hrel
  by_cases hin:i<n
  ·have hin':(i:Int)<(n:Int):=by omega
   have HF0:=aa hfr
   have HH:Hid (sP n i i D D1):=⟨hinj,hmem,fun a c hac hci ha hc=>hsrt a c hac (by omega) (by omega),fun c hc hci=>by omega⟩
   have HRw:=aa hrow
   clear hrow hinj hmem hsrt hfr H0 HI0
   go_wp2
   go_loopw [7] (fun jv wq=> ∃(j:Nat) (D2:Nat->Nat),j<=i/\jv= .int .i64 (j:Int)/\fE wq r cap n D2/\sP n i j D D2/\Fr (fun k=>k=r) W wq) (fun jv _=>(intOf jv).toNat)
   case atStart=>exact⟨i,D1,by omega,rfl,HRw.out,HH.out,HF0.out⟩
   case round=>
    obtain⟨j,D2,hji,rfl,hrow,hh,hfr⟩:=hrel
    clear HRw HH HF0
    by_cases hj0:j=0
    ·subst hj0
     have hd:=hh.done hin hji (.inl rfl)
     have HD:=aa hd
     have HRw:=aa hrow
     have HHf:=aa hh
     have HFr:=aa hfr
     clear hd hh hfr
     go_wp2
     go_quiet (fail)
     go_wp2
     go_roundw
     case rel=>exact⟨i+1,D2,by omega,.inl (by omega),by go_num,HRw.out.kept rfl,HHf.out.inj,HHf.out.mem,fun a c q1 q2 q3=>HD.out a c q1 (by omega),HFr.out.drewN _⟩
     case measure=>simp[intOf];omega
    ·obtain⟨k,rfl⟩: ∃k,j=k+1:=⟨j-1,by omega⟩
     have c1:=hrow.cell (k+1) (by omega)
     have c0:=hrow.cell k (by omega)
     have fz:=hrow.frozen
     have hjv:((k+1:Nat):Int)=(k:Int)+1:=by omega
     rw[hjv]
     have hk1:k+1<n:=by omega
     have hk0:k<n:=by omega
     have hkb:k<=100000:=by omega
     have hg0:decide (0<(k:Int)+1)=true:=decide_eq_true (by omega)
     have hx1:(k:Int)+1<(n:Int):=by omega
     have hx0:(k:Int)<(n:Int):=by omega
     have hx2:(0:Int)<=(k:Int)+1:=by omega
     have hx3:(0:Int)<=(k:Int):=by omega
     have hx4:((k:Int)+1).toNat=k+1:=by omega
     have hx5:IntKind.i64.wrap ((k:Int)+1-1)=(k:Int):=by simp[IntKind.wrap,IntKind.bits,IntKind.signed];omega
     have hx6:IntKind.i64.wrap (k:Int)=(k:Int):=by simp[IntKind.wrap,IntKind.bits,IntKind.signed];omega
     have hdn:=fun q=>hh.done hin hji (.inr q)
     have hst:=fun q=>hh.step hin (by omega) hji q
     have HDN:=aa hdn
     have HST:=aa hst
     have HRw:=aa hrow
     have HHf:=aa hh
     have HFr:=aa hfr
     have HLs:=aa (fun W=>HL.out (D2 (k+1):Int) (D2 k:Int) W)
     have hlts:=hrow.lt
     clear hdn hst hh hfr hj0 hjv HL hrow
     by_cases hlt:D2 (k+1)<D2 k
     ·have hlt':decide ((D2 (k+1):Int)<(D2 k:Int))=true:=by simp;omega
      rw[hlt'] at HLs
      go_wp2
      go_region_held3 (fun w'=>w'.cell? ⟨r,k+1,none⟩=some (.int .u64 (D2 (k+1):Int))/\w'.cell? ⟨r,k,none⟩=some (.int .u64 (D2 k:Int))) (go_keep)
       (first
        |(go_at_call 202;refine(HLs.out _).mono ?_;rintro e w1 ⟨rfl,hw⟩;subst hw))
      go_wp2
      go_region
      go_wp2
      go_roundw
      case rel=>
       refine⟨k,swp D2 (k+1),by omega,rfl,?_,HST.out (by simpa using hlt),?_⟩
       ·exact fE.kept ((HRw.out.set (k+1) (D2 k) (by omega)).set k (D2 (k+1)) (by omega)) rfl
       ·exact(((HFr.out.setCell (a:=⟨r,k+1,none⟩) rfl _).setCell (a:=⟨r,k,none⟩) rfl _).drew).drew
      case measure=>simp[intOf]
     ·have hlt':decide ((D2 (k+1):Int)<(D2 k:Int))=false:=by simp;omega
      rw[hlt'] at HLs
      have HD:=aa (HDN.out (by simpa using hlt))
      go_wp2
      go_region_held3 (fun w'=>w'.cell? ⟨r,k+1,none⟩=some (.int .u64 (D2 (k+1):Int))/\w'.cell? ⟨r,k,none⟩=some (.int .u64 (D2 k:Int))) (go_keep)
       (first
        |(go_at_call 202;refine(HLs.out _).mono ?_;rintro e w1 ⟨rfl,hw⟩;subst hw))
      go_wp2
      go_roundw
      case rel=>exact⟨i+1,D2,by omega,.inl (by omega),by go_num,HRw.out.kept rfl,HHf.out.inj,HHf.out.mem,fun a c q1 q2 q3=>HD.out a c q1 (by omega),HFr.out.drew⟩
      case measure=>simp[intOf];omega
  ·have hin': ¬(i:Int)<(n:Int):=by omega
   have HE:=aa (And.intro hrow (And.intro hmem (And.intro (fun a c (q1:a<c) (q2:c<n)=>hsrt a c q1 (by omega) q2) hfr)))
   clear hrow hinj hmem hsrt hfr H0 HI0
   go_wp2
   go_end0
   exact⟨rfl,D1,HE.out⟩
theorem EA (W:World) (r cap n:Nat) (D:Nat->Nat) (q:Int) (h:fE W r cap n D) (hn:n<=12) (hinj: ∀a c,a<n->c<n->D a=D c->a=c):
  Calls Tryz.prog 168 #[.slice (some ⟨r,0,none⟩) n cap,.int .i64 0,.int .i64 (n:Int),.int .i64 q] W fun e w'=>e= .returned (.tuple #[])/\ ∃D',fE w' r cap n D'/\(∀v,(∃a,a<n/\D' a=v)↔ ∃a,a<n/\D a=v)/\(∀a c,a<c->c<n->D' a<D' c)/\Fr (fun k=>k=r) W w':=by
 have HI:=aa (pY W r cap n D h (by omega) hinj)
 have hn':(n:Int)<=12:=by omega
 clear h hinj
 go_enter Tryz.func168,Tryz.ntmps168
 go_wp2
 go_loopw [1,2] (fun av bv wr=>av= .int .i64 0/\bv= .int .i64 (n:Int)/\wr=W) (fun _ _ _=>0)
 case atStart=>exact⟨rfl,rfl,rfl⟩
 case round=>
  obtain⟨rfl,rfl,rfl⟩:=hrel
  go_wp2_with (first
   |(go_at_call 196;refine(HI.out).mono ?_;rintro e w1 ⟨rfl,hx⟩;have HX:=aa hx;clear hx))
  simp[bodyPost,results,Tryz.results168,go_sem]
  exact HX.out
def Aa (m:Nat):Prop:= ∀(W:World) (r cap n:Nat) (D:Nat->Nat),fE W r cap n D->n<=m->(∀a c,a<n->c<n->D a=D c->a=c)->
 Calls Tryz.prog 133 #[.slice (some ⟨r,0,none⟩) n cap] W fun e w'=>e= .returned (.tuple #[])/\ ∃D',fE w' r cap n D'/\(∀v,(∃a,a<n/\D' a=v)↔ ∃a,a<n/\D a=v)/\(∀a c,a<c->c<n->D' a<D' c)/\Fr (fun k=>k=r) W w'
theorem ym (x:Int) (h0:0<=x) (h:x<=12) (W:World):Calls Tryz.prog 206 #[.int .u64 x] W fun e w'=>(∃q:Int,e= .returned (.int .i64 q))/\w'=W:=by
 have hx:x=0\/x=1\/x=2\/x=3\/x=4\/x=5\/x=6\/x=7\/x=8\/x=9\/x=10\/x=11\/x=12:=by omega
 rcases hx with rfl|rfl|rfl|rfl|rfl|rfl|rfl|rfl|rfl|rfl|rfl|rfl|rfl<;>
 ·go_enter Tryz.func206,Tryz.ntmps206
  go_wp2
  go_ret
  exact⟨⟨_,rfl⟩,rfl⟩
theorem re (x:Int) (h0:0<=x) (h:x<=12) (W:World):Calls Tryz.prog 169 #[.int .u64 x] W fun e w'=>(∃q:Int,e= .returned (.int .i64 q))/\w'=W:=by
 have H:=aa (ym x h0 h)
 go_enter Tryz.func169,Tryz.ntmps169
 go_wp2_with (first
  |(go_at_call 206;refine(H.out _).mono ?_;rintro e w1 ⟨⟨q,rfl⟩,hw⟩;subst hw))
 go_ret
 exact⟨⟨_,rfl⟩,rfl⟩
theorem Cc:Aa 12:=by
 intro W r cap n D h hn hinj
 have HP:=aa (fun q=>EA W r cap n D q h hn hinj)
 have HB:=aa (re (n:Int) (by omega) (by omega))
 have hw:IntKind.u64.wrap (n:Int)=(n:Int):=by rw[IntKind.wrap_u64];omega
 clear h hinj
 go_enter Tryz.func133,Tryz.ntmps133
 go_wp2_with (first
  |(go_at_call 169;refine(HB.out _).mono ?_;rintro e w1 ⟨⟨q,rfl⟩,hw⟩;replace hw:=hw.symm;subst hw)
  |(go_at_call 168;refine(HP.out _).mono ?_;rintro e w2 ⟨rfl,hx⟩;have HX:=aa hx;clear hx))
 go_end0
 exact⟨rfl,HX.out⟩
theorem Ba (W:World):Calls Tryz.prog 133 #[.slice none 0 0] W fun e w'=>e= .returned (.tuple #[])/\w'=W:=by
 have HB:=aa (re 0 (by omega) (by omega))
 have HI:Hid (∀W,Calls Tryz.prog 196 #[.slice none 0 0,.int .i64 0,.int .i64 0] W fun e w'=>e= .returned (.tuple #[])/\w'=W):=by
  show∀W,_
  intro W
  go_enter Tryz.func196,Tryz.ntmps196
  go_wp2
  go_loopw [6] (fun iv wr=>iv= .int .i64 1/\wr=W) (fun _ _=>0)
  case atStart=>exact⟨rfl,rfl⟩
  case round=>
   obtain⟨rfl,rfl⟩:=hrel
   go_wp2
   go_end0
   exact⟨rfl,rfl⟩
 have HP:Hid (∀q W,Calls Tryz.prog 168 #[.slice none 0 0,.int .i64 0,.int .i64 0,.int .i64 q] W fun e w'=>e= .returned (.tuple #[])/\w'=W):=by
  show∀q W,_
  intro q W
  go_enter Tryz.func168,Tryz.ntmps168
  go_wp2
  go_loopw [1,2] (fun av bv wr=>av= .int .i64 0/\bv= .int .i64 0/\wr=W) (fun _ _ _=>0)
  case atStart=>exact⟨rfl,rfl,rfl⟩
  case round=>
   obtain⟨rfl,rfl,rfl⟩:=hrel
   go_wp2_with (first
    |(go_at_call 196;refine(HI.out _).mono ?_;rintro e w1 ⟨rfl,hw⟩;replace hw:=hw.symm;subst hw))
   simp[bodyPost,results,Tryz.results168,go_sem]
 go_enter Tryz.func133,Tryz.ntmps133
 go_wp2_with (first
  |(go_at_call 169;refine(HB.out _).mono ?_;rintro e w1 ⟨⟨q,rfl⟩,hw⟩;replace hw:=hw.symm;subst hw)
  |(go_at_call 168;refine(HP.out _ _).mono ?_;rintro e w2 ⟨rfl,hw⟩;replace hw:=hw.symm;subst hw))
 go_end0
 exact⟨rfl,rfl⟩
end Go.Proofs.YtjlbmmiomfpgiaaGreatDoor.Wh
namespace Go.Proofs.YtjlbmmiomfpgiaaGreatDoor.Wh
open Go.RowKit
def lM (to:Nat) (fr:Int->Option (Nat×Nat)) (ls:List Nat):Nat->Nat:=fun s=>if to<to/64*64+s/\(to/64*64+s)∈ls then((fr ((to/64*64+s:Nat):Int)).getD (0,0)).1 else 0
def lJ (to:Nat) (fr:Int->Option (Nat×Nat)) (ls:List Nat):Nat->Nat:=fun s=>if to<to/64*64+s/\(to/64*64+s)∈ls then((fr ((to/64*64+s:Nat):Int)).getD (0,0)).2 else 0
def mF (fr:Int->Option (Nat×Nat)) (ls:List Nat):Int->Option (Nat×Nat):=fun i=>if i∈ls.map (fun (k:Nat)=>(k:Int)) then none else fr i
def dZ (to nw:Nat) (S:List It) (ls:List Nat):List It:=many nw S (ls.filter (fun k=>decide (k<=to)))
section
variable {to nw:Nat} {fr:Int->Option (Nat×Nat)} {ls:List Nat} {t:Nat} {S:List It}
theorem Cn (h:t<=to):lM to fr (ls++[t])=lM to fr ls:=by
 funext s
 unfold lM
 by_cases h1:to<to/64*64+s
 ·by_cases h2:(to/64*64+s)∈ls
  ·rw[if_pos ⟨h1,List.mem_append_left _ h2⟩,if_pos ⟨h1,h2⟩]
  ·rw[if_neg (fun q=>by rcases List.mem_append.1 q.2 with e|e;exact h2 e;simp at e;omega),if_neg (fun q=>h2 q.2)]
 ·rw[if_neg (fun q=>h1 q.1),if_neg (fun q=>h1 q.1)]
theorem Cw (h:t<=to):lJ to fr (ls++[t])=lJ to fr ls:=by
 funext s
 unfold lJ
 by_cases h1:to<to/64*64+s
 ·by_cases h2:(to/64*64+s)∈ls
  ·rw[if_pos ⟨h1,List.mem_append_left _ h2⟩,if_pos ⟨h1,h2⟩]
  ·rw[if_neg (fun q=>by rcases List.mem_append.1 q.2 with e|e;exact h2 e;simp at e;omega),if_neg (fun q=>h2 q.2)]
 ·rw[if_neg (fun q=>h1 q.1),if_neg (fun q=>h1 q.1)]
theorem yZ (h:to<t) (h2:t/64=to/64):lM to fr (ls++[t])=au (lM to fr ls) (t%64) ((fr (t:Int)).getD (0,0)).1:=by
 funext s
 by_cases e:s=t%64
 ·subst e
  rw[aj]
  unfold lM
  rw[show to/64*64+t%64=t by omega,if_pos ⟨h,by simp⟩]
 ·rw[af _ _ _ _ e]
  unfold lM
  by_cases h1:to<to/64*64+s
  ·by_cases h3:(to/64*64+s)∈ls
   ·rw[if_pos ⟨h1,List.mem_append_left _ h3⟩,if_pos ⟨h1,h3⟩]
   ·rw[if_neg (fun q=>by rcases List.mem_append.1 q.2 with e'|e';exact h3 e';simp at e';omega),if_neg (fun q=>h3 q.2)]
  ·rw[if_neg (fun q=>h1 q.1),if_neg (fun q=>h1 q.1)]
theorem zs (h:to<t) (h2:t/64=to/64):lJ to fr (ls++[t])=au (lJ to fr ls) (t%64) ((fr (t:Int)).getD (0,0)).2:=by
 funext s
 by_cases e:s=t%64
 ·subst e
  rw[aj]
  unfold lJ
  rw[show to/64*64+t%64=t by omega,if_pos ⟨h,by simp⟩]
 ·rw[af _ _ _ _ e]
  unfold lJ
  by_cases h1:to<to/64*64+s
  ·by_cases h3:(to/64*64+s)∈ls
   ·rw[if_pos ⟨h1,List.mem_append_left _ h3⟩,if_pos ⟨h1,h3⟩]
   ·rw[if_neg (fun q=>by rcases List.mem_append.1 q.2 with e'|e';exact h3 e';simp at e';omega),if_neg (fun q=>h3 q.2)]
  ·rw[if_neg (fun q=>h1 q.1),if_neg (fun q=>h1 q.1)]
theorem qY:mF fr (ls++[t])=cS (mF fr ls) (t:Int) none:=by
 funext i
 unfold mF cS
 by_cases e:i=(t:Int)
 ·rw[if_pos (by simp[e]),if_pos e]
 ·rw[if_neg (c:=i=(t:Int)) e]
  by_cases h:i∈ls.map (fun (k:Nat)=>(k:Int))
  ·show _=if i∈ls.map (fun (k:Nat)=>(k:Int)) then none else fr i
   rw[if_pos (by rw[List.map_append];exact List.mem_append_left _ h),if_pos h]
  ·show _=if i∈ls.map (fun (k:Nat)=>(k:Int)) then none else fr i
   rw[if_neg (fun q=>by rw[List.map_append] at q;rcases List.mem_append.1 q with q|q;exact h q;simp at q;exact e q),if_neg h]
theorem yw (h:t ∉ ls):mF fr ls (t:Int)=fr (t:Int):=by
 unfold mF
 refine if_neg (fun q=>h ?_)
 obtain⟨k,hk,e⟩:=List.mem_map.1 q
 obtain rfl:k=t:=by omega
 exact hk
theorem zn (h:t<=to):dZ to nw S (ls++[t])=dZ to nw S ls++dS nw S t:=by
 unfold dZ many
 rw[List.filter_append,List.flatMap_append]
 simp[h]
theorem wy (h:to<t):dZ to nw S (ls++[t])=dZ to nw S ls:=by
 unfold dZ many
 rw[List.filter_append,List.flatMap_append]
 have: ¬t<=to:=by omega
 simp[this]
end
def uv (ts:List Nat):List Value:=ts.map (fun (x:Nat)=>Value.int .u64 (x:Int))
theorem C6:(Tryz.prog.info? 25).map (fun i=>(i.zero,i.size,i.bytes))=some (some (.int .u64 0),1,8):=by kernel_rfl
def dW (D:Nat->Nat) (j:Nat):List Nat:=(List.range j).map D
theorem Ab (D:Nat->Nat) (j:Nat):dW D (j+1)=dW D j++[D j]:=by unfold dW;rw[List.range_succ,List.map_append];rfl
theorem qB {D:Nat->Nat} {j v:Nat}:v∈dW D j↔ ∃a,a<j/\D a=v:=by
 unfold dW
 rw[List.mem_map]
 simp
theorem De {W:World} {base r cap n:Nat} {ts:List Nat} (h:W.ownsRow base 25 1 (.slice (some ⟨r,0,none⟩) n cap) n (uv ts)):fE W r cap n (fun j=>ts.getD j 0)/\ts.length=n/\base<=r:=by
 obtain⟨h1,h2⟩:=h
 have hlen:ts.length=n:=by simpa [uv] using h1
 rcases h2 with ⟨e,_⟩|⟨g,c',cur,e,hb,hg,hn,hc,hs,ht⟩
 ·cases e
 ·cases e
  refine⟨⟨cur,hg,by omega,fun j hj=> ?_⟩,hlen,hb⟩
  have this:(cur.toList.take (n*1))[j]? =(uv ts)[j]? :=by rw[ht]
  rw[List.getElem?_take_of_lt (by omega),Array.getElem?_toList] at this
  rw[this]
  unfold uv
  rw[List.getElem?_map,yV0 (by omega)]
  simp[List.getD,yV0 (show j<ts.length by omega)]
attribute [local go_sem ↓] Go.wp_at_zero Go.wp_at_succ
theorem rm (x y:Int):(Lit.int .u64 x).sameKey (.int .u64 y)=decide (x=y):=by
 rw[Bool.eq_iff_iff,WideAt.sameKey_iff (iN y)]
 simp
theorem ob (w:World) {ops:Array Oper} {rest:List Oper} {o:Oper} {a:Act} {Q:Exit->Act->World->Prop} (hg:o.guard=none) (it:Operand) (hop:o.op=Op.next it false) (mb r s:Nat) (D:DataW Unit) (left:Lit->Bool) (cnt:Nat)
  (hit:a.eval it= .pointer (some ⟨r,0,none⟩)) (h:w.ranges Tryz.prog 25 RL mb r s D left cnt)
  (hDone:cnt=0->(∀kl,left kl=false)->wpList Tryz.prog ops Q rest (a.put o.dst (.tuple #[.bool false])) w)
  (hMore: ∀(k:Nat) (f l:Int) (w':World) (cnt':Nat),k<18446744073709551616->left (.int .u64 (k:Int))=true->Maps.has D (.int .u64 (k:Int))=true->w'.ranges Tryz.prog 25 RL mb r s D (fun z=>left z&& !z.sameKey (.int .u64 (k:Int))) cnt'->cnt'<cnt->
   w.grownBy w' (some r)->w'.heap.size=w.heap.size->(Instr.entry (.pointer (some ⟨r,0,none⟩))).run Tryz.prog w'= .ok (.tuple #[.int .u64 (k:Int),.agg #[.int .i64 f,.int .i64 l]]) w'->wpList Tryz.prog ops Q rest (a.put o.dst (.tuple #[.bool true,.int .u64 (k:Int),.agg #[.int .i64 f,.int .i64 l]])) w'):
  wpList Tryz.prog ops Q (o::rest) a w:=by
 refine wpList_next_ranges w hg it hop 25 sO RL (Value.int .u64) (fun c:Int×Int=> .agg #[.int .i64 c.1,.int .i64 c.2]) (fun key kl hk=>by obtain⟨x,hx,_⟩:=Maps.keyOf_int_inv Tryz.underlying25 hk;exact⟨x,hx⟩) (fun v y hv=>by obtain⟨a,c,rfl,_⟩:=An hv;exact⟨(a,c),rfl⟩) mb r s D left cnt hit h hDone ?_
 intro x c kl y w' cnt' hkey hlk hv hat hrg hlt hgr hsz hen
 obtain⟨x',ex,rfl,hwx⟩:=Maps.keyOf_int_inv Tryz.underlying25 hkey
 cases ex
 have hb:0<=x/\x<18446744073709551616:=by
  simp[Lit.wf,IntKind.min,IntKind.max,IntKind.bits,IntKind.signed] at hwx
  omega
 obtain⟨k,rfl⟩:=Int.eq_ofNat_of_zero_le hb.1
 exact hMore k c.1 c.2 w' cnt' (by omega) hlk (Maps.has_true_of_atKey hat) hrg hlt hgr hsz hen
section
variable {w:World} {b g mb n nw ct s:Nat} {F L A B E F0 L0:Nat->Nat} {T:Nat->Bool} {fr:Int->Option (Nat×Nat)} {S:List It}
def met (fr:Int->Option (Nat×Nat)) (to k:Nat):Prop:=(fr (k:Int)).isSome=true/\k/64<=to/64
theorem uK (hi:Inv n nw ct F L fr A B E T S) {to:Nat} (ts:List Nat) (hn:ts.Nodup) (hm: ∀k∈ts,met fr to k):ts.length<=S.length:=by
 have:=eE (l:=ts.map (fun (k:Nat)=>(k:Int))) (m:=S.map (fun x=>(ky nw x:Int))) (by
  rw[List.Nodup,List.pairwise_map] at*
  exact hn.imp (fun {a c} hne e=>hne (by omega))) (fun x hx=>by
   obtain⟨k,hk,rfl⟩:=List.mem_map.1 hx
   obtain⟨h1,_⟩:=hm k hk
   obtain⟨k',e,hk'⟩:=hi.out _ h1
   obtain rfl:k=k':=by omega
   rcases hi.ft k hk' with ⟨e,_⟩|⟨f,l,_,e,_⟩
   ·rw[e] at h1;cases h1
   ·obtain⟨y,hy⟩:=List.exists_mem_of_ne_nil _ e
    obtain⟨h3,h4⟩:=da.1 hy
    exact List.mem_map.2 ⟨y,h3,by rw[h4]⟩)
 simpa using this
theorem vi {D:Nat->Nat} {N j:Nat} (h: ∀a c,a<c->c<N->D a<D c) (hj:j<=N):(dW D j).Pairwise (· < ·):=by
 rw[List.pairwise_iff_getElem]
 intro a c ha hc hac
 simp[dW] at ha hc⊢
 exact h a c hac (by omega)
theorem za (hs:ji S) {to:Nat} {ls:List Nat} (h:ls.Pairwise (· < ·)):(dZ to nw S ls).length<=S.length:=by
 unfold dZ
 rw[pI hs nw _ (h.filter _)]
 exact List.length_filter_le _ _
theorem AH (h:aB w b g n nw ct (.map (some mb)) F0 L0 A B E T) (hF0:F0=fun _=>0) (hL0:L0=fun _=>0) (hm:dv w mb fr s) (hi:Inv n nw ct F L fr A B E T S) (hbm:b≠mb) (hgm:g≠mb) (hn:n<=1024) (m:Nat) (hS:Aa m) (hnm:n<=m)
  (to:Nat) (ht:to<18446744073709551616) (hto:nw/64<to/64):
  Calls Tryz.prog 83 #[.pointer (some ⟨b,0,none⟩),.int .u64 (to:Int)] w fun e w'=> ∃ls:List Nat,ls.Pairwise (· < ·)/\(∀k,k∈ls↔met fr to k)/\(∃v,e= .returned v/\w'.ownsRow w.heap.size 3 1 v (dZ to nw S ls).length (iv (ai (dZ to nw S ls))))/\
   aB w' b g n nw ct (.map (some mb)) (lM to fr ls) (lJ to fr ls) A B E T/\(∃s',dv w' mb (mF fr ls) s')/\Fr (O3 b g mb) w w':=by
 obtain⟨i0,hii,hz0,hz1,hz2⟩:=info_parts C6
 have HM0:=aa hm
 obtain⟨D,hD,hD1,hD2,hD3⟩:=hm
 have e0:=h.tm
 have hbb:=h.bS
 have hgg:=h.cY
 have hmlt:=hD.lt
 have HD:=aa hD
 have HD1:=aa hD1
 have HR:=aa h
 have HI:=aa hi
 have HT1:=aa (fun x hx=>cm x hx)
 have HT2:=aa (cm to ht)
 clear h hi hD hD1
 go_enter Tryz.func83,Tryz.ntmps83
 go_wp2_with (first|(at_range;refine wpList_range_own _ rfl _ 152 rfl 25 155 sO Tryz.underlying152 RL mb s D rfl HD.out ?_;intro w0 hrg0 hg0 hs0;have HRG:=aa hrg0;have HG0:=aa hg0;clear hrg0 hg0))
 go_frame
 go_loopw [5] (fun v wr=> ∃(ts:List Nat) (left:Lit->Bool) (cnt:Nat),wr.ranges Tryz.prog 25 RL mb w.heap.size s D left cnt/\Below w.heap.size w wr/\wr.ownsRow w.heap.size 25 1 v ts.length (uv ts)/\ts.Nodup/\(∀k:Nat,k∈ts↔(met fr to k/\left (.int .u64 (k:Int))=false))) (fun _ wr=>wr.rangeLeft mb w.heap.size)
 case atStart=>
  refine⟨[],_,_,HRG.out,⟨HG0.out.os,HG0.out.tape,HG0.out.output,HG0.out.size,fun k hk=>HG0.out.block k hk (by simp)⟩,World.ownsRow_nil _ _ _ _,List.nodup_nil,fun k=>⟨fun q=>absurd q (by simp),fun q=> ?_⟩⟩
  obtain⟨⟨q1,_⟩,q2⟩:=q
  rw[HD1.out,q1] at q2
  cases q2
 case round=>
  obtain⟨ts,left,cnt,hrg,hbel,hown,hnd,hmem⟩:=hrel
  obtain⟨av,cv,rfl⟩:=bf hown
  have HRGr:=aa hrg
  have HB:=aa hbel
  have HO:=aa hown
  have HND:=aa hnd
  have HMEM:=aa hmem
  have hsz:=hbel.size
  have hrlt:=hrg.lt
  clear hrg hbel hown hnd hmem HRG HG0 HD
  go_wp2_with (first|(at_next;refine ob _ rfl _ rfl mb w.heap.size s D left cnt rfl HRGr.out ?_ ?_))
  ·intro hc0 hl0
   have hmet: ∀k,k∈ts↔met fr to k:=fun k=>by rw[HMEM.out k];exact⟨fun q=>q.1,fun q=>⟨q,hl0 _⟩⟩
   have hlenS:ts.length<=n:=yX0 (uK HI.out (to:=to) ts HND.out (fun k hk=>(hmet k).1 hk)) HI.out.bW
   obtain⟨N,hN⟩: ∃N,ts.length=N:=⟨_,rfl⟩
   have HSORT:Hid (Calls Tryz.prog 133 #[.slice av N cv] wr fun e w'=>e= .returned (.tuple #[])/\ ∃D',(N=0\/ ∃r2,av=some ⟨r2,0,none⟩/\w.heap.size<=r2/\fE w' r2 cv N D')/\(∀k,k∈dW D' N↔met fr to k)/\(∀a c,a<c->c<N->D' a<D' c)/\Below w.heap.size w w'):=by
    have ho:=HO.out
    rw[hN] at ho
    rcases ho.2 with ⟨hnil,h0⟩|⟨r2,cap',cur',hv',_⟩
    ·cases hnil
     refine(Ba wr).mono ?_
     rintro e w' ⟨rfl,rfl⟩
     refine⟨rfl,fun _=>0,.inl rfl,fun k=> ?_,fun a c _ hc=>by omega,HB.out⟩
     rw[←hmet k,List.length_eq_zero_iff.1 hN]
     exact Iff.rfl
    ·cases hv'
     obtain⟨hrow,_,hge⟩:=De ho
     have hinj: ∀a c,a<N->c<N->ts.getD a 0=ts.getD c 0->a=c:=fun a c ha hc e=>by
      have hnd:=HND.out
      simp only[List.getD,yV0 (show a<ts.length by omega),yV0 (show c<ts.length by omega),Option.getD_some] at e
      have hp:=List.pairwise_iff_getElem.1 hnd
      rcases Nat.lt_trichotomy a c with q|q|q
      ·exact absurd e (hp a c _ _ q)
      ·exact q
      ·exact absurd e.symm (hp c a _ _ q)
     refine(hS wr r2 cv N (fun j=>ts.getD j 0) hrow (by omega) hinj).mono ?_
     rintro e w' ⟨rfl,D',hr',hm',hs',hf'⟩
     refine⟨rfl,D',.inr ⟨r2,rfl,hge,hr'⟩,fun k=> ?_,hs',?_⟩
     ·rw[qB,hm' k,←hmet k]
      constructor
      ·rintro⟨a,ha,rfl⟩
       simp only[List.getD,yV0 (show a<ts.length by omega),Option.getD_some]
       exact List.getElem_mem _
      ·intro hk
       obtain⟨a,ha,e⟩:=List.mem_iff_getElem.1 hk
       exact⟨a,by omega,by simp[List.getD,yV0 ha,e]⟩
     ·exact⟨hf'.os.trans HB.out.os,hf'.tape.trans HB.out.tape,hf'.output.trans HB.out.output,yX0 HB.out.size hf'.size,fun k hk=>(hf'.block k (by have:=HB.out.size;omega) (by omega)).trans (HB.out.block k hk)⟩
   have HNb:Hid (N<=n):=by show N<=n;omega
   rw[hN]
   clear HO HND HMEM HT1 HT2 hmet hlenS hc0 hl0 hN HRGr hS hrlt hsz
   clear e0 hz0 hz1 hz2 hii
   go_wp2_with (first
    |(go_at_call 133;refine(HSORT.out).mono ?_;rintro e w3 ⟨rfl,D',hrow,hmm,hss,hb3⟩;have HROW:=aa hrow;have HMM:=aa hmm;have HSS:=aa hss;have HB3:=aa hb3;clear hrow hmm hss hb3))
   have HSTART:Hid (aB w3 b g n nw ct (.map (some mb)) (lM to fr (dW D' 0)) (lJ to fr (dW D' 0)) A B E T/\(∃s',dv w3 mb (mF fr (dW D' 0)) s')):=by
    have hr3:=HR.out.below HB3.out
    have e1:lM to fr (dW D' 0)=fun _=>0:=by funext q;unfold lM;exact if_neg (fun q=>by simp[dW] at q)
    have e2:lJ to fr (dW D' 0)=fun _=>0:=by funext q;unfold lJ;exact if_neg (fun q=>by simp[dW] at q)
    have e3:mF fr (dW D' 0)=fr:=by funext q;unfold mF;exact if_neg (fun q=>by simp[dW] at q)
    rw[e1,e2,e3]
    subst hF0 hL0
    exact⟨hr3,s,HM0.out.block (HB3.out.block mb hmlt)⟩
   clear HR HM0 HB HSORT
   go_loopw [7,32] (fun v iv_ wr=> ∃j:Nat,j<=N/\iv_= .int .i64 (j:Int)/\aB wr b g n nw ct (.map (some mb)) (lM to fr (dW D' j)) (lJ to fr (dW D' j)) A B E T/\(∃s',dv wr mb (mF fr (dW D' j)) s')/\Fr (fun k=>k=b\/k=mb) w3 wr/\wr.ownsRow w3.heap.size 3 1 v (dZ to nw S (dW D' j)).length (iv (ai (dZ to nw S (dW D' j))))) (fun _ i _=>N-(intOf i).toNat)
   case atStart=>exact⟨0,by omega,rfl,HSTART.out.1,HSTART.out.2,Fr.refl _ _,World.ownsRow_nil _ _ _ _⟩
   case round=>
    obtain⟨j,hj,rfl,hrep,⟨s2,hm2⟩,hfr,hown⟩:=hrel
    obtain⟨av2,cv2,rfl⟩:=bf hown
    clear HSTART
    have hbb2:=hrep.bS
    have hsz3:=HB3.out.size
    have hszr:=hfr.size
    by_cases hjN:j<N
    ·obtain⟨t,ht'⟩: ∃t,D' j=t:=⟨_,rfl⟩
     have hmt:met fr to t:=(HMM.out t).1 (qB.2 ⟨j,hjN,ht'⟩)
     have htn:t ∉ dW D' j:=fun q=>by
      obtain⟨a,ha,e⟩:=qB.1 q
      have:=HSS.out a j ha hjN
      omega
     obtain⟨k',ek,hk'⟩:=HI.out.out _ hmt.1
     obtain rfl:t=k':=by omega
     have hle64:=hmt.2
     obtain⟨f,l,hfl,hgne,hLst⟩: ∃f l,fr (t:Int)=some (f,l)/\dS nw S t≠[]/\lO A B f l (ai (dS nw S t)):=by
      rcases HI.out.ft t hk' with ⟨e,_⟩|q
      ·have:=hmt.1;rw[e] at this;cases this
      ·exact q
     have ht64:t<18446744073709551616:=by
      obtain⟨y,hy⟩:=List.exists_mem_of_ne_nil _ hgne
      obtain⟨h1,h2⟩:=da.1 hy
      have h3:=HI.out.tm y h1
      have h4:=HI.out.hw
      unfold ky at h2
      omega
     have hglen:(dS nw S t).length<=1024:=by
      have h1:(dS nw S t).length<=S.length:=List.length_filter_le _ _
      have h2:=HI.out.bW
      omega
     have HId:Hid (∀W,aB W b g n nw ct (.map (some mb)) (lM to fr (dW D' j)) (lJ to fr (dW D' j)) A B E T->Calls Tryz.prog 132 #[.pointer (some ⟨b,0,none⟩),.agg #[.int .i64 (f:Int),.int .i64 (l:Int)]] W fun e w'=>(∃v,e= .returned v/\w'.ownsRow W.heap.size 3 1 v (dS nw S t).length (iv (ai (dS nw S t))))/\Below W.heap.size W w'):=fun W hW=>by
      have q:=yJ hW hLst (fun p hp=>by
       obtain⟨y,hy,rfl⟩:=bX.1 hp
       have:=HI.out.lt y (da.1 hy).1
       omega) (jB (nO HI.out.nd)) hn (by rw[cC];exact hglen)
      rwa [cC] at q
     have hdl:(dZ to nw S (dW D' j)).length<=1024:=by
      have h1:=za (nw:=nw) (to:=to) HI.out.srt (vi HSS.out hj)
      have h2:=HI.out.bW
      omega
     obtain⟨r2,rfl,hr2ge,hr2⟩:=HROW.out.resolve_left (by omega)
     have hr2lt:=hr2.lt
     have hrj:=(hr2.kept (W':=wr) (hfr.block r2 hr2lt (by omega))).cell j hjN
     rw[ht'] at hrj
     have hfat:mF fr (dW D' j) (t:Int)=some (f,l):=by rw[yw htn];exact hfl
     have htm:=hrep.tm
     have hwf:=vo t ht64
     have hNb:=HNb.out
     have hjN':(j:Int)<(N:Int):=by omega
     have HRep:=aa hrep
     have HM2:=aa hm2
     have HFr:=aa hfr
     have HO:=aa hown
     have hEQ:dW D' (j+1)=dW D' j++[t]:=by rw[Ab,ht']
     by_cases htt:t<=to
     ·have htt':(t:Int)<=(to:Int):=by omega
      have hlk:=hm2.look (t:Int) hwf
      rw[hfat] at hlk
      have hlk':(Instr.lookup 152 (.map (some mb)) (.int .u64 (t:Int)) false).run Tryz.prog wr= .ok (.agg #[.int .i64 (f:Int),.int .i64 (l:Int)]) wr:=hlk
      have HX1:Hid (lM to fr (dW D' (j+1))=lM to fr (dW D' j)/\lJ to fr (dW D' (j+1))=lJ to fr (dW D' j)/\mF fr (dW D' (j+1))=cS (mF fr (dW D' j)) (t:Int) none/\dZ to nw S (dW D' (j+1))=dZ to nw S (dW D' j)++dS nw S t):=by
       show _/\_
       rw[hEQ]
       exact⟨Cn htt,Cw htt,qY,zn htt⟩
      generalize dZ to nw S (dW D' j)=U at*
      generalize dS nw S t=G at*
      clear hmt htn ek hk' hfl hgne hLst hrep hm2 hfr hown hlk hEQ hfat ht' HMM HSS HROW HI HNb
      go_wp2_with (first
       |(go_at_call 132;refine(HId.out _ HRep.out).mono ?_;rintro e w5 ⟨⟨v5,rfl,ho5⟩,hb5⟩;obtain⟨a5,c5,rfl⟩:=bf ho5;have HO5:=aa ho5;have HV5:=aa (kN HO.out hb5);have HB5:=aa hb5;have hs5:=hb5.size;clear ho5 hb5)
       |(at_builtin;refine cK _ rfl _ _ rfl w3.heap.size _ _ _ _ _ _ _ rfl HV5.out rfl HO5.out (qw _) (by omega) (by omega) ?_;intro v' w6 hown' hgrow;obtain⟨a6,c6,rfl⟩:=bf hown';have hf6:Fr (fun k=>w3.heap.size<=k) w5 w6:=⟨hgrow.os,hgrow.tape,hgrow.output,hgrow.size,fun k hk hn=>hgrow.block k hk (fun e=>hn (bn HO.out e.symm).1)⟩;have hf7:Fr (fun k=>w3.heap.size<=k) wr w6:=(Fr.aC HB5.out).trans hf6;have HO6:=aa hown';have HF7:=aa hf7;have hr6:=(HRep.out.below HB5.out).kept (hf6.block b (by omega) (by omega)) (hf6.block g (by omega) (by omega));have HR6:=aa hr6;have HM6:=aa ((HM2.out.block (HB5.out.block mb (by omega))).block (hf6.block mb (by omega) (by omega)));have htm6:=hr6.tm;have hs6:=hgrow.size;clear hown' hgrow hf6 hf7 hr6)
       |(at_delete;refine cN rfl _ _ rfl (by exact HM6.out) (t:Int) hwf rfl rfl ?_;intro w7 hm7 hg7;have HM7:=aa hm7;have HG7:=aa hg7;clear hm7 hg7))
      go_roundw
      case rel=>
       obtain⟨x1,x2,x3,x4⟩:=HX1.out
       have hg7:=HG7.out
       refine⟨j+1,by omega,by go_num,?_,?_,?_,?_⟩
       ·rw[x1,x2]
        exact HR6.out.kept (hg7.block b HR6.out.bS (fun e=>hbm (by injection e))) (hg7.block g HR6.out.cY (fun e=>hgm (by injection e)))
       ·rw[x3];exact⟨_,HM7.out⟩
       ·refine⟨hg7.os.trans (HF7.out.os.trans HFr.out.os),hg7.tape.trans (HF7.out.tape.trans HFr.out.tape),hg7.output.trans (HF7.out.output.trans HFr.out.output),by have:=hg7.size;omega,fun k hk hne=> ?_⟩
        rw[hg7.block k (by omega) (fun e=>hne (.inr (by injection e))),HF7.out.block k (by omega) (by omega)]
        exact HFr.out.block k hk hne
       ·rw[x4,dc,ga,List.length_append]
        exact cw HO6.out (fun k hk=>hg7.block k (bn HO6.out hk).2 (fun e=>by have:=(bn HO6.out hk).1;injection e with e;omega))
      case measure=>simp[intOf];omega
     ·have htt': ¬(t:Int)<=(to:Int):=by omega
      have hteq:t/64=to/64:=by omega
      have hlk:=(hm2.block (w':=wr.drew) rfl).look (t:Int) hwf
      rw[hfat] at hlk
      have hlk':(Instr.lookup 152 (.map (some mb)) (.int .u64 (t:Int)) false).run Tryz.prog wr.drew= .ok (.agg #[.int .i64 (f:Int),.int .i64 (l:Int)]) wr.drew:=hlk
      have HX1:Hid (lM to fr (dW D' (j+1))=au (lM to fr (dW D' j)) (t%64) f/\lJ to fr (dW D' (j+1))=au (lJ to fr (dW D' j)) (t%64) l/\mF fr (dW D' (j+1))=cS (mF fr (dW D' j)) (t:Int) none/\dZ to nw S (dW D' (j+1))=dZ to nw S (dW D' j)):=by
       show _/\_
       rw[hEQ]
       have q1:=yZ (fr:=fr) (ls:=dW D' j) (show to<t by omega) hteq
       have q2:=zs (fr:=fr) (ls:=dW D' j) (show to<t by omega) hteq
       rw[hfl] at q1 q2
       exact⟨q1,q2,qY,wy (by omega)⟩
      have hq64:t%64<64:=Nat.mod_lt _ (by decide)
      have c1:=hrep.sf (t%64) hq64
      have c2:=hrep.sl (t%64) hq64
      have fb:=hrep.fb
      have r1:(0:Int)<=((t%64:Nat):Int):=by omega
      have r2':((t%64:Nat):Int)<64:=by omega
      have r3:IntKind.u64.wrap ((t:Int)%64)=((t%64:Nat):Int):=by rw[IntKind.wrap_u64];omega
      obtain⟨W4,hW4⟩: ∃W4,W4=(wr.setCell ⟨b,1+t%64*2,none⟩ (.int .i64 (f:Int))).setCell ⟨b,1+t%64*2+1,none⟩ (.int .i64 (l:Int)):=⟨_,rfl⟩
      have HR4:Hid (aB W4 b g n nw ct (.map (some mb)) (au (lM to fr (dW D' j)) (t%64) f) (au (lJ to fr (dW D' j)) (t%64) l) A B E T):=by rw[hW4];exact(hrep.cS (t%64) hq64 f).oe (t%64) hq64 l
      have HF4:Hid (Fr (fun k=>k=b\/k=mb) w3 W4):=by rw[hW4];exact(hfr.setCell (a:=⟨b,1+t%64*2,none⟩) (.inl rfl) _).setCell (a:=⟨b,1+t%64*2+1,none⟩) (.inl rfl) _
      have hK4: ∀k,k≠b->W4.heap[k]? =wr.heap[k]? :=fun k hk=>by rw[hW4,yY0 _ _ _ _ hk,yY0 _ _ _ _ hk]
      have HM4:Hid (dv W4 mb (mF fr (dW D' j)) s2):=hm2.block (hK4 mb (fun e=>hbm e.symm))
      have HO4:=aa (cw (w':=W4) hown (fun k hk=>hK4 k (by have:=(bn hown hk).1;omega)))
      have HW4:=aa hW4
      generalize dZ to nw S (dW D' j)=U at*
      clear hmt htn ek hk' hfl hgne hLst hrep hm2 hfr hown hlk hEQ hfat ht' HMM HSS HROW HI HNb hW4 hK4 HO HFr HM2 HRep HId
      go_upto_region 14 with fail
      go_region
      go_upto_region 15 with fail
      rw[←HW4.out]
      have htm4:=HR4.out.tm
      clear HW4 c1 c2 fb hlk' htm hrj
      go_wp2_with (first
       |(at_delete;refine cN rfl _ _ rfl (by exact HM4.out.block (w':=W4.drew) rfl) (t:Int) hwf rfl rfl ?_;intro w7 hm7 hg7;have HM7:=aa hm7;have HG7:=aa hg7;clear hm7 hg7))
      go_roundw
      case rel=>
       obtain⟨x1,x2,x3,x4⟩:=HX1.out
       have hg7:=HG7.out
       refine⟨j+1,by omega,by go_num,?_,?_,?_,?_⟩
       ·rw[x1,x2]
        exact HR4.out.kept (hg7.block b HR4.out.bS (fun e=>hbm (by injection e))) (hg7.block g HR4.out.cY (fun e=>hgm (by injection e)))
       ·rw[x3];exact⟨_,HM7.out⟩
       ·refine⟨hg7.os.trans HF4.out.os,hg7.tape.trans HF4.out.tape,hg7.output.trans HF4.out.output,yX0 HF4.out.size hg7.size,fun k hk hne=> ?_⟩
        have:=HF4.out.size
        exact(hg7.block k (show k<W4.heap.size by omega) (fun e=>hne (.inr (by injection e)))).trans (HF4.out.block k hk hne)
       ·rw[x4]
        exact cw HO4.out (fun k hk=>hg7.block k (bn HO4.out hk).2 (fun e=>by have:=(bn HO4.out hk).1;injection e with e;omega))
      case measure=>simp[intOf];omega
    ·obtain rfl:j=N:=by omega
     have hjN': ¬(j:Int)<(j:Int):=by omega
     have HE:Hid (aB wr b g n nw ct (.map (some mb)) (lM to fr (dW D' j)) (lJ to fr (dW D' j)) A B E T/\(∃s',dv wr mb (mF fr (dW D' j)) s')/\Fr (O3 b g mb) w wr):=⟨hrep,⟨s2,hm2⟩,(Fr.aC HB3.out).trans (hfr.wide (fun k _ q=>q.elim .inl (fun q=> .inr (.inr q))))⟩
     have HP:=aa (vi HSS.out (i8 _))
     have HO:=aa (xJ hown hsz3)
     clear hrep hm2 hfr hown HSS HROW HI HNb
     go_wp2
     go_ret
     exact⟨dW D' j,HP.out,HMM.out,⟨_,rfl,HO.out⟩,HE.out⟩
  ·intro k f l w1 cnt1 hk64 hlk hhas hrg1 hlt1 hg1 hs1 hen
   have hb1:Below w.heap.size w w1:=HB.out.grown hg1 HB.out.size (fun j hj=>by injection hj with hj;omega)
   have hisS:(fr (k:Int)).isSome=true:=by rw[←HD1.out];exact hhas
   have hnk:k ∉ ts:=fun q=>by
    have:=((HMEM.out k).1 q).2
    rw[hlk] at this
    cases this
   have hvb: ∀j,(Value.slice av ts.length cv).ownBlock=some j->w.heap.size<=j/\j≠w.heap.size:=fun j hj=>by
    refine⟨(bn HO.out hj).1,fun e=> ?_⟩
    rcases HO.out.2 with ⟨hnil,_⟩|⟨g',cap',cur',hv',_,hg',_⟩
    ·rw[hnil] at hj;cases hj
    ·rw[hv'] at hj
     simp[Value.ownBlock] at hj
     subst hj
     obtain⟨es,clock,since,seen,c0,_,_,_,_,hr,_⟩:=HRGr.out
     rw[←e,hg'] at hr
     cases hr
   have HO1:=aa (cw (w':=w1) HO.out (fun j hj=>hg1.block j (bn HO.out hj).2 (fun e=>(hvb j hj).2 (by injection e))))
   have HB1:=aa hb1
   have HVB:=aa hvb
   have HRG1:=aa hrg1
   have HLT:=aa hlt1
   have HTK:=aa (HT1.out k hk64)
   have HIS:=aa hisS
   have HNK:=aa hnk
   have hs1':=HB1.out.size
   have hlen:ts.length<=1024:=by
    have h1:=uK HI.out (to:=to) ts HND.out (fun k hk=>((HMEM.out k).1 hk).1)
    have h2:=HI.out.bW
    omega
   clear hb1 hisS hnk hvb hrg1 hlt1 hg1 hlk hhas hs1
   by_cases hle:k/64<=to/64
   ·have hle':((k/64:Nat):Int)<=((to/64:Nat):Int):=by omega
    generalize ((k/64:Nat):Int)=q1 at*
    generalize ((to/64:Nat):Int)=q2 at*
    go_wp2_with (first
     |(go_at_call 82;(have hh:=HMK.out;clear hh);refine(HT2.out _).mono ?_;rintro e wx ⟨rfl,hw⟩;replace hw:=hw.symm;subst hw)
     |(go_at_call 82;refine(HTK.out _).mono ?_;rintro e wx ⟨rfl,hw⟩;replace hw:=hw.symm;subst hw;have HMK:=aa trivial)
     |(at_builtin;refine wpList_append_own _ rfl _ _ 26 rfl w.heap.size 25 i0 (.int .u64 0) 1 8 Tryz.underlying26 hii hz0 hz1 hz2 rfl (by decide) (.slice av ts.length cv) ts.length (uv ts) rfl (by exact HO1.out.alloc _) ⟨w1.heap.size,0,none⟩ 1 1 [.int .u64 (k:Int)] rfl rfl (rE _ _ _) (by simp[Value.oneCell']) (by unfold maxLen;omega) (by omega) (by simp;omega) ?_;intro v' w2 hown' hgrow _;have hb2:=(HB1.out.alloc HB1.out.size _).grown hgrow (by simp;omega) (fun k hk=>(HVB.out k hk).1);have hr2:=(HRG1.out.alloc (.cells #[.int .u64 (k:Int)] 25)).kept hgrow (fun e=>by have:=(HVB.out mb e.symm).1;omega) (fun e=>(HVB.out _ e.symm).2 rfl);obtain⟨av',cv',rfl⟩:=bf hown';have HO2:=aa hown';have HB2:=aa hb2;have HR2:=aa hr2;clear hown' hgrow hb2 hr2))
    go_roundw
    case rel=>
     refine⟨ts++[k],_,cnt1,HR2.out,HB2.out,by rw[List.length_append];unfold uv;rw[List.map_append];exact HO2.out,?_,?_⟩
     ·rw[List.nodup_append]
      exact⟨HND.out,by simp,fun a ha c hc e=>HNK.out (by simp at hc;rw[←hc,←e];exact ha)⟩
     ·intro j
      rw[List.mem_append,HMEM.out j]
      simp only[List.mem_singleton,rm,Bool.and_eq_false_iff,Bool.not_eq_false',decide_eq_true_eq]
      constructor
      ·rintro(⟨q1,q2⟩|rfl)
       ·exact⟨q1,.inl q2⟩
       ·exact⟨⟨HIS.out,hle⟩,.inr rfl⟩
      ·rintro⟨q1,q2|q2⟩
       ·exact .inl ⟨q1,q2⟩
       ·exact .inr (by omega)
    case measure=>rw[HR2.out.left_eq,HRGr.out.left_eq];exact HLT.out
   ·have hle': ¬((k/64:Nat):Int)<=((to/64:Nat):Int):=by omega
    generalize ((k/64:Nat):Int)=q1 at*
    generalize ((to/64:Nat):Int)=q2 at*
    go_wp2_with (first
     |(go_at_call 82;(have hh:=HMK.out;clear hh);refine(HT2.out _).mono ?_;rintro e wx ⟨rfl,hw⟩;replace hw:=hw.symm;subst hw)
     |(go_at_call 82;refine(HTK.out _).mono ?_;rintro e wx ⟨rfl,hw⟩;replace hw:=hw.symm;subst hw;have HMK:=aa trivial))
    go_roundw
    case rel=>
     refine⟨ts,_,cnt1,HRG1.out,HB1.out,HO1.out,HND.out,?_⟩
     intro j
     rw[HMEM.out j]
     simp only[rm,Bool.and_eq_false_iff,Bool.not_eq_false',decide_eq_true_eq]
     constructor
     ·rintro⟨q1,q2⟩
      exact⟨q1,.inl q2⟩
     ·rintro⟨q1,q2|q2⟩
      ·exact⟨q1,q2⟩
      ·obtain rfl:j=k:=by omega
       exact absurd q1.2 hle
    case measure=>rw[HRG1.out.left_eq,HRGr.out.left_eq];exact HLT.out
end
def gS {α:Type} (f:Nat->α) (z:α) (ps:List Nat):Nat->α:=fun p=>if p∈ps then z else f p
theorem fO {α:Type} (f:Nat->α) (z:α):gS f z []=f:=by funext p;simp[gS]
theorem eU {α:Type} (f:Nat->α) (z:α) (ps:List Nat) (q:Nat):gS f z (ps++[q])=au (gS f z ps) q z:=by
 funext p
 show(if p∈ps++[q] then z else f p)=if p=q then z else if p∈ps then z else f p
 by_cases e:p=q
 ·rw[if_pos (by simp[e]),if_pos e]
 ·rw[if_neg (c:=p=q) e]
  by_cases h:p∈ps
  ·rw[if_pos (List.mem_append_left _ h),if_pos h]
  ·rw[if_neg (fun x=>by rcases List.mem_append.1 x with x|x;exact h x;simp at x;exact e x),if_neg h]
section
variable {w:World} {b g mb n nw ct s:Nat} {F L A B E F' L':Nat->Nat} {T:Nat->Bool} {fr:Int->Option (Nat×Nat)} {S:List It}
theorem AX (hs:ji S) {to:Nat} (hle:nw<=to) (h:to/64=nw/64):eY nw S (nw/64*64) (to%64+1)=due to S:=by
 rw[pA hs]
 unfold due
 congr 1
 funext x
 rw[Bool.eq_iff_iff]
 simp only[decide_eq_true_eq,Bool.and_eq_true]
 have hk:ky nw x=x.t\/ky nw x=nw:=by unfold ky;omega
 have hk1:x.t<=ky nw x/\nw<=ky nw x:=by unfold ky;omega
 constructor
 ·rintro⟨q1,q2⟩;omega
 ·intro q;exact⟨by omega,by omega⟩
theorem CB (hi:Inv n nw ct F L fr A B E T S) {to:Nat} (hle:nw<=to) (h:nw/64<to/64) {ls:List Nat} (hp:ls.Pairwise (· < ·)) (hm: ∀k,k∈ls↔met fr to k):eY nw S (nw/64*64) 64++dZ to nw S ls=due to S:=by
 have hs:=hi.srt
 rw[pA hs]
 unfold dZ
 rw[pI hs nw _ (hp.filter _)]
 have hd:=fG (p:=fun x=>decide (ky nw x<nw/64*64+64)) (hs.filter (fun x=>decide (x.t<=to))) (fun a c hac hc=>decide_eq_true (by have hc:=of_decide_eq_true hc;unfold ky at*;omega))
 have e:due to S=S.filter (fun x=>decide (x.t<=to)):=rfl
 rw[e,←hd,List.filter_filter,List.filter_filter]
 congr 1
 ·congr 1
  funext x
  rw[Bool.eq_iff_iff]
  simp only[decide_eq_true_eq,Bool.and_eq_true]
  have hk:ky nw x=x.t\/ky nw x=nw:=by unfold ky;omega
  have hk1:x.t<=ky nw x/\nw<=ky nw x:=by unfold ky;omega
  constructor
  ·rintro⟨q1,q2⟩;exact⟨by omega,by omega⟩
  ·rintro⟨q1,q2⟩;exact⟨by omega,by omega⟩
 ·apply List.filter_congr
  intro x hx
  rw[Bool.eq_iff_iff]
  simp only[decide_eq_true_eq,List.mem_filter,Bool.and_eq_true,Bool.not_eq_true',decide_eq_false_iff_not]
  constructor
  ·rintro⟨q1,q2⟩
   obtain⟨k,e1,e2⟩:=hi.out _ ((hm _).1 q1).1
   unfold ky at*
   omega
  ·rintro⟨q1,q2⟩
   have h1:nw/64<ky nw x/64:=by omega
   have h2:ky nw x<=to:=by unfold ky;omega
   refine⟨(hm _).2 ⟨?_,by omega⟩,h2⟩
   rcases hi.ft (ky nw x) h1 with ⟨_,e2⟩|⟨f,l,e1,_⟩
   ·have:x∈dS nw S (ky nw x):=da.2 ⟨hx,rfl⟩
    rw[e2] at this
    cases this
   ·rw[e1];rfl
structure uM (n nw to:Nat) (F L:Nat->Nat) (fr:Int->Option (Nat×Nat)) (F' L':Nat->Nat) (fr':Int->Option (Nat×Nat)):Prop where
 hs: ∀s,s<64->if to/64*64+s<=to then F' s=0/\L' s=0 else F' s=(ez nw F L fr (to/64*64+s)).1/\L' s=(ez nw F L fr (to/64*64+s)).2
 hf: ∀k:Nat,to/64<k/64->fr' (k:Int)=fr (k:Int)
 ho: ∀i:Int,(fr' i).isSome=true-> ∃k:Nat,i=(k:Int)/\to/64<k/64
theorem tH (hi:Inv n nw ct F L fr A B E T S) {to:Nat} (h:to/64=nw/64):uM n nw to F L fr (gN (to%64+1) F) (gN (to%64+1) L) fr:=by
 refine⟨fun s hs=> ?_,fun k hk=>rfl,fun i hi'=> ?_⟩
 ·unfold gN ez
  by_cases e:to/64*64+s<=to
  ·have h1:s<to%64+1:=by omega
   rw[if_pos e,if_pos h1,if_pos h1]
   exact⟨rfl,rfl⟩
  ·have h1: ¬s<to%64+1:=by omega
   have h2:(to/64*64+s)/64=nw/64:=by omega
   rw[if_neg e,if_neg h1,if_neg h1,if_pos h2,show(to/64*64+s)%64=s by omega]
   exact⟨rfl,rfl⟩
 ·obtain⟨k,e,hk⟩:=hi.out i hi'
  exact⟨k,e,by omega⟩
theorem wZ (hi:Inv n nw ct F L fr A B E T S) {to:Nat} (h:nw/64<to/64) {ls:List Nat} (hm: ∀k,k∈ls↔met fr to k):uM n nw to F L fr (lM to fr ls) (lJ to fr ls) (mF fr ls):=by
 refine⟨fun s hs=> ?_,fun k hk=> ?_,fun i hi'=> ?_⟩
 ·by_cases e:to/64*64+s<=to
  ·rw[if_pos e]
   have h1: ¬(to<to/64*64+s/\(to/64*64+s)∈ls):=fun q=>by omega
   unfold lM lJ
   rw[if_neg h1,if_neg h1]
   exact⟨rfl,rfl⟩
  ·rw[if_neg e]
   unfold lM lJ ez
   rw[if_neg (c:=(to/64*64+s)/64=nw/64) (by omega)]
   by_cases q:(to/64*64+s)∈ls
   ·rw[if_pos ⟨by omega,q⟩,if_pos ⟨by omega,q⟩]
    exact⟨rfl,rfl⟩
   ·rw[if_neg (fun x=>q x.2),if_neg (fun x=>q x.2)]
    have:fr ((to/64*64+s:Nat):Int)=none:=by
     cases hx:fr ((to/64*64+s:Nat):Int) with
     |none=>rfl
     |some z=>exact absurd ((hm _).2 ⟨by rw[hx];rfl,by omega⟩) q
    rw[this]
    exact⟨rfl,rfl⟩
 ·exact yw (fun q=>by have:=((hm k).1 q).2;omega)
 ·unfold mF at hi'
  split at hi'
  ·cases hi'
  ·rename_i q
   obtain⟨k,e,hk⟩:=hi.out i hi'
   refine⟨k,e,?_⟩
   apply Classical.byContradiction
   intro hc
   exact q (List.mem_map.2 ⟨k,(hm k).2 ⟨by rw[←e];exact hi',by omega⟩,e.symm⟩)
theorem Inv.advance (hi:Inv n nw ct F L fr A B E T S) {fr':Int->Option (Nat×Nat)} {to:Nat} (hto:nw<=to) (ht:to<18446744073709551616) (h:uM n nw to F L fr F' L' fr'):
  Inv n to (late to S).length F' L' fr' (gS A 0 (ai (due to S))) (gS B 0 (ai (due to S))) (gS E 0 (ai (due to S))) (gS T false (ai (due to S))) (late to S):=by
 have hno: ∀y∈S,to<y.t->y.i+1 ∉ ai (due to S):=fun y hy hy2 q=>by
  obtain⟨z,hz,e⟩:=bX.1 q
  obtain⟨h1,h2⟩:=ph.1 hz
  have:=yM hi.nd h1 hy (by omega)
  rw[this] at h2
  omega
 refine hi.Hu to hto ht h.hs h.hf h.ho (fun y hy hy2=> ?_) (fun p hp hq=> ?_)
 ·have:=hno y hy hy2
  unfold gS
  rw[if_neg this,if_neg this,if_neg this,if_neg this]
  exact⟨rfl,rfl,rfl,rfl⟩
 ·unfold gS
  by_cases e:p∈ai (due to S)
  ·rw[if_pos e,if_pos e];exact⟨rfl,rfl⟩
  ·rw[if_neg e,if_neg e]
   refine hi.zer p hp (fun x hx e'=> ?_)
   by_cases hx2:x.t<=to
   ·exact e (bX.2 ⟨x,ph.2 ⟨hx,hx2⟩,e'⟩)
   ·exact hq x hx (by omega) e'
end
section
variable {w:World} {b g mb n nw:Nat} {S:List It}
theorem lI {w:World} {base N:Nat} {av:Option Addr} {cv:Nat} {xs:List Nat} (h:w.ownsRow base 3 1 (.slice av N cv) N (iv xs)) (j:Nat) (hj:j<N): ∃r,av=some ⟨r,0,none⟩/\base<=r/\r<w.heap.size/\w.cell? ⟨r,j,none⟩=some (.int .i64 ((xs.getD j 0:Nat)-1:Int)):=by
 have hlen:xs.length=N:=by have:=h.1;rw[E7] at this;omega
 rcases h.2 with ⟨e,h0⟩|⟨r,cap,cur,e,hb,hg,hn,hc,hs,ht⟩
 ·omega
 ·cases e
  refine⟨r,rfl,hb,(Array.getElem?_eq_some_iff.1 hg).1,?_⟩
  have this:(cur.toList.take (N*1))[j]? =(iv xs)[j]? :=by rw[ht]
  rw[List.getElem?_take_of_lt (by omega),Array.getElem?_toList] at this
  unfold World.cell?
  simp only[hg]
  simp
  rw[this]
  unfold iv
  rw[List.getElem?_map,yV0 (by omega)]
  simp[yV0 (show j<xs.length by omega)]
theorem tQ (h:sk w b g mb n nw S) (m:Nat) (hS:Aa m) (hnm:n<=m) (to0:Nat) (ht0:to0<18446744073709551616):
  Calls Tryz.prog 42 #[.pointer (some ⟨b,0,none⟩),.int .u64 (to0:Int)] w fun e w'=>(∃v,e= .returned v/\w'.ownsRow w.heap.size 3 1 v (due (max to0 nw) S).length (iv (ai (due (max to0 nw) S))))/\sk w' b g mb n (max to0 nw) (late (max to0 nw) S)/\Fr (O3 b g mb) w w':=by
 obtain⟨ct,F,L,fr,A,B,E,T,s,hr,hm,hi,hbm,hgm,hn⟩:=h
 obtain⟨to,hto⟩: ∃to,max to0 nw=to:=⟨_,rfl⟩
 rw[hto]
 have hle:nw<=to:=by omega
 have ht:to<18446744073709551616:=by have:=hi.hw;omega
 have hmax:max (to0:Int) (nw:Int)=(to:Int):=by omega
 have e0:=hr.tn
 have hbb:=hr.bS
 have hgg:=hr.cY
 have hmm:=hm.lt
 have hdl:(due to S).length<=1024:=by
  have h1:(due to S).length<=S.length:=List.length_filter_le _ _
  have h2:=hi.bW
  omega
 have hdn: ∀p∈ai (due to S),p<=n:=fun p hp=>by
  obtain⟨y,hy,rfl⟩:=bX.1 hp
  have:=hi.lt y (ph.1 hy).1
  omega
 have hcl:ct=(due to S).length+(late to S).length:=by rw[hi.hc,←List.length_append,yH hi.srt]
 have hmx:(if to0<nw then(nw:Int) else(to0:Int))=(to:Int):=by split<;>omega
 have HT1:=aa (cm to ht)
 have HT2:=aa (cm nw hi.hw)
 have HD0:Hid (∀p∈ai (due to S),p≠0):=oz
 have HLN:Hid (ct<=1024):=by show ct<=1024;rw[hi.hc];have:=hi.bW;omega
 have HDN:=aa hdn
 have HCL:=aa hcl
 clear hdn hcl hmax
 by_cases htn:to/64=nw/64
 ·have hdu:=AX hi.srt hle htn
  have hsw:=rD hr hi hn to (to%64+1) ht (by rw[if_pos htn])
  rw[hdu] at hsw
  have HSW:=aa hsw
  have hadv:=hi.advance hle ht (tH hi htn)
  obtain⟨F',hF'⟩: ∃F',gN (to%64+1) F=F':=⟨_,rfl⟩
  obtain⟨L',hL'⟩: ∃L',gN (to%64+1) L=L':=⟨_,rfl⟩
  obtain⟨fr',hfr'⟩: ∃fr',fr=fr':=⟨_,rfl⟩
  rw[hF',hL'] at HSW hadv
  have HADV:Hid (Inv n to (late to S).length F' L' fr' (gS A 0 (ai (due to S))) (gS B 0 (ai (due to S))) (gS E 0 (ai (due to S))) (gS T false (ai (due to S))) (late to S)):=by rw[←hfr'];exact hadv
  have HM:Hid (dv w mb fr' s):=by rw[←hfr'];exact hm
  have hq:((nw/64:Nat):Int)=((to/64:Nat):Int):=by omega
  rw[hq] at HT2
  clear hr hm hi hdu hsw hadv hq htn hto hF' hL' hfr'
  generalize ((to/64:Nat):Int)=q1 at*
  go_enter Tryz.func42,Tryz.ntmps42
  go_upto_region 4 with fail
  clear hmx
  go_wp2_with (first
   |(go_at_call 81;refine(HSW.out).mono ?_;rintro e w1 ⟨⟨v1,rfl,ho1⟩,hr1,hon1⟩;obtain⟨av,cv,rfl⟩:=bf ho1;have e1:=hr1.tn;have HOz:=aa ho1;have HRz:=aa hr1;have HMz:=aa (Exists.intro s (HM.out.block (hon1.block mb hmm (fun e=>hbm e.symm) (fun e=>hgm e.symm))));have HFz:=aa (Fr.gK (S:=O3 b g mb) hon1 (.inl rfl) (.inr (.inl rfl)));clear ho1 hr1 hon1))
  go_region_held3 (fun w'=>w'.cell? ⟨b,0,none⟩=some (.int .u64 (nw:Int))) (go_keep)
   (first
    |(go_at_call 82;first
      |(refine(HT1.out _).mono ?_;rintro e wx ⟨rfl,hw⟩;subst hw)
      |(refine(HT2.out _).mono ?_;rintro e wx ⟨rfl,hw⟩;subst hw)))
  go_wp2
  replace HOz:Hid (w1.drew.ownsRow w.heap.size 3 1 (.slice av (due to S).length cv) (due to S).length (iv (ai (due to S)))):=cw HOz.out (fun _ _=>rfl)
  replace HRz:=aa HRz.out.drew
  replace HMz:Hid (∃s',dv w1.drew mb fr' s'):=by obtain⟨s',q⟩:=HMz.out;exact⟨s',q.block rfl⟩
  replace HFz:=aa HFz.out.drew
  clear e1 e0 HSW HT1 HT2 HM
  obtain⟨ps,hps⟩: ∃ps,ai (due to S)=ps:=⟨_,rfl⟩
  have hpl:ps.length=(due to S).length:=by rw[←hps,cC]
  obtain⟨N,hN⟩: ∃N,(due to S).length=N:=⟨_,rfl⟩
  rw[hps] at HOz HADV HDN HD0
  have HPS:=aa hps
  rw[hN] at HOz HCL hdl hpl⊢
  have HPL:=aa hpl
  have HNN:=aa hN
  clear hpl hps hN
  obtain⟨c',hc'⟩: ∃c',(late to S).length=c':=⟨_,rfl⟩
  rw[hc'] at HADV HCL
  clear hc'
  go_loopw [34] (fun iv_ wr=> ∃j:Nat,j<=N/\iv_= .int .i64 (j:Int)/\aB wr b g n nw ct (.map (some mb)) F' L' (gS A 0 (ps.take j)) (gS B 0 (ps.take j)) (gS E 0 (ps.take j)) (gS T false (ps.take j))/\(∃s',dv wr mb fr' s')/\Fr (O3 b g mb) w wr/\wr.ownsRow w.heap.size 3 1 (.slice av N cv) N (iv ps)) (fun i _=>N-(intOf i).toNat)
  case atStart=>exact⟨0,by omega,rfl,by rw[List.take_zero,fO,fO,fO,fO];exact HRz.out,HMz.out,HFz.out,HOz.out⟩
  case round=>
   obtain⟨j,hj,rfl,hrep,⟨s2,hm2⟩,hfr,hown⟩:=hrel
   clear HRz HMz HFz HOz
   by_cases hjN:j<N
   ·obtain⟨r,rfl,hrb,hrl,hcell⟩:=lI hown j hjN
    have hjp:j<ps.length:=by have:=HPL.out;omega
    have hpj:ps.getD j 0=ps[j]:=by simp[yV0 hjp]
    have hmem:ps[j]∈ps:=List.getElem_mem _
    have hpn:=HDN.out _ hmem
    obtain⟨q,hq⟩: ∃q,ps[j]=q+1:=⟨ps[j]-1,by have:=HD0.out _ hmem;omega⟩
    rw[hpj,hq] at hcell
    rw[hq] at hpn
    have hcell':wr.cell? ⟨r,j,none⟩=some (.int .i64 (q:Int)):=by
     rw[hcell]
     congr 2
     omega
    have htk:ps.take (j+1)=ps.take j++[q+1]:=by rw[List.take_succ_eq_append_getElem hjp,hq]
    have hnn:=HNN.out
    obtain⟨cp,en⟩:=hrep.en
    have n0:=hrep.ea (q+1) hpn;have n1:=hrep.eb (q+1) hpn;have n2:=hrep.ee (q+1) hpn;have n3:=hrep.et (q+1) hpn
    have fg:=hrep.fg
    have hjN':(j:Int)<(N:Int):=by omega
    have HREP:Hid (aB ((((wr.setCell ⟨g,(q+1)*4,none⟩ (.int .i64 0)).setCell ⟨g,(q+1)*4+1,none⟩ (.int .i64 0)).setCell ⟨g,(q+1)*4+2,none⟩ (.int .u64 0)).setCell ⟨g,(q+1)*4+3,none⟩ (.bool false)) b g n nw ct (.map (some mb)) F' L' (gS A 0 (ps.take (j+1))) (gS B 0 (ps.take (j+1))) (gS E 0 (ps.take (j+1))) (gS T false (ps.take (j+1)))):=by
     rw[htk,eU,eU,eU,eU]
     exact(((hrep.fh (q+1) hpn 0).fe (q+1) hpn 0).EO (q+1) hpn 0).kj (q+1) hpn false
    have hK4: ∀k,k≠g->((((wr.setCell ⟨g,(q+1)*4,none⟩ (.int .i64 0)).setCell ⟨g,(q+1)*4+1,none⟩ (.int .i64 0)).setCell ⟨g,(q+1)*4+2,none⟩ (.int .u64 0)).setCell ⟨g,(q+1)*4+3,none⟩ (.bool false)).heap[k]? =wr.heap[k]? :=fun k hk=>by rw[yY0 _ _ _ _ hk,yY0 _ _ _ _ hk,yY0 _ _ _ _ hk,yY0 _ _ _ _ hk]
    have HMS:=aa (hm2.block (hK4 mb (fun e=>hgm e.symm)))
    have HFS:=aa ((((hfr.setCell (a:=⟨g,(q+1)*4,none⟩) (.inr (.inl rfl)) (.int .i64 0)).setCell (a:=⟨g,(q+1)*4+1,none⟩) (.inr (.inl rfl)) (.int .i64 0)).setCell (a:=⟨g,(q+1)*4+2,none⟩) (.inr (.inl rfl)) (.int .u64 0)).setCell (a:=⟨g,(q+1)*4+3,none⟩) (.inr (.inl rfl)) (.bool false))
    have HOS:=aa (cw hown (fun k hk=>hK4 k (by have:=(bn hown hk).1;omega)))
    have ql:q+1<n+1:=by omega
    have qb:q<=1024:=by omega
    clear hrep hm2 hfr hown hcell hjp hpj hmem hpn hq htk hK4 HCL HADV HPL HNN HDN HD0
    go_wp2
    go_roundw
    case rel=>exact⟨j+1,by omega,by go_num,HREP.out,⟨_,HMS.out⟩,HFS.out,HOS.out⟩
    case measure=>simp[intOf];omega
   ·obtain rfl:j=N:=by omega
    have hjN': ¬(j:Int)<(j:Int):=by omega
    have hct:=HCL.out
    have etc:=hrep.tc
    have etn:=hrep.tn
    have fb:=hrep.fb
    have hps:ps.take j=ps:=List.take_of_length_le (by have:=HPL.out;omega)
    rw[hps] at hrep
    have hcb:ct<=1024+1024:=by have:=HLN.out;omega
    have hwc:IntKind.i64.wrap ((ct:Int)-(j:Int))=(c':Int):=by rw[show((ct:Int)-(j:Int))=(c':Int) by omega];simp[IntKind.wrap,IntKind.bits,IntKind.signed];omega
    have hwc2:(ct:Int)-(j:Int)=(c':Int):=by omega
    have HREP:Hid (aB ((wr.setCell ⟨b,131,none⟩ (.int .i64 (c':Int))).setCell ⟨b,0,none⟩ (.int .u64 (to:Int))) b g n to c' (.map (some mb)) F' L' (gS A 0 ps) (gS B 0 ps) (gS E 0 ps) (gS T false ps)):=(hrep.sm c').FY to
    have hK4: ∀k,k≠b->((wr.setCell ⟨b,131,none⟩ (.int .i64 (c':Int))).setCell ⟨b,0,none⟩ (.int .u64 (to:Int))).heap[k]? =wr.heap[k]? :=fun k hk=>by rw[yY0 _ _ _ _ hk,yY0 _ _ _ _ hk]
    have HMS:=aa (hm2.block (hK4 mb (fun e=>hbm e.symm)))
    have HFS:=aa ((hfr.setCell (a:=⟨b,131,none⟩) (.inl rfl) (.int .i64 (c':Int))).setCell (a:=⟨b,0,none⟩) (.inl rfl) (.int .u64 (to:Int)))
    have HOS:=aa (cw hown (fun k hk=>hK4 k (by have:=(bn hown hk).1;omega)))
    clear hrep hm2 hfr hown hps hK4 HCL HPL HDN HD0 hct
    go_wp2
    go_ret
    exact⟨⟨_,rfl,by rw[HNN.out,HPS.out];exact HOS.out⟩,⟨c',F',L',fr',_,_,_,_,s2,HREP.out,HMS.out,HADV.out,hbm,hgm,hn⟩,HFS.out⟩
 ·have htl:nw/64<to/64:=by omega
  have HSW:=aa (rD hr hi hn to 64 ht (by rw[if_neg htn]))
  have hz: ∀X:Nat->Nat,∀W,aB W b g n nw ct (.map (some mb)) (gN 64 F) (gN 64 L) A B E T->aB W b g n nw ct (.map (some mb)) (fun _=>0) (fun _=>0) A B E T:=fun _ W hW=>by
   refine⟨hW.bg,hW.en,hW.tn,hW.tm,hW.tc,fun x hx=> ?_,fun x hx=> ?_,hW.ea,hW.eb,hW.ee,hW.et,hW.fb,hW.fg⟩
   ·have:=hW.sf x hx;unfold gN at this;rwa [if_pos hx] at this
   ·have:=hW.sl x hx;unfold gN at this;rwa [if_pos hx] at this
  have HFE:Hid (∀W,aB W b g n nw ct (.map (some mb)) (gN 64 F) (gN 64 L) A B E T->dv W mb fr s->Calls Tryz.prog 83 #[.pointer (some ⟨b,0,none⟩),.int .u64 (to:Int)] W fun e w'=> ∃ls:List Nat,Hid (eY nw S (nw/64*64) 64++dZ to nw S ls=due to S/\uM n nw to F L fr (lM to fr ls) (lJ to fr ls) (mF fr ls))/\(∃v,e= .returned v/\w'.ownsRow W.heap.size 3 1 v (dZ to nw S ls).length (iv (ai (dZ to nw S ls))))/\
   aB w' b g n nw ct (.map (some mb)) (lM to fr ls) (lJ to fr ls) A B E T/\(∃s',dv w' mb (mF fr ls) s')/\Fr (O3 b g mb) W w'):=fun W h1 h2=>by
   refine(AH (hz F W h1) rfl rfl h2 hi hbm hgm hn m hS hnm to ht htl).mono ?_
   rintro e w' ⟨ls,q1,q2,q3⟩
   exact⟨ls,⟨CB hi hle htl q1 q2,wZ hi htl q2⟩,q3⟩
  have HI:=aa hi
  have HM:=aa hm
  have hneb:(((to/64:Nat):Int) !=((nw/64:Nat):Int))=true:=by simp;omega
  have hne: ¬((to/64:Nat):Int)=((nw/64:Nat):Int):=by omega
  have HU1:Hid ((eY nw S (nw/64*64) 64).length<=1024):=by
   have h1:=qT (nw:=nw) hi.srt (nw/64*64) 64
   have h2:=hi.bW
   show _<=1024
   omega
  obtain⟨U,hU⟩: ∃U,eY nw S (nw/64*64) 64=U:=⟨_,rfl⟩
  rw[hU] at HSW HFE HU1
  clear hr hm hi htl htn hto hU hz
  generalize ((to/64:Nat):Int)=q1 at*
  generalize ((nw/64:Nat):Int)=q2 at*
  go_enter Tryz.func42,Tryz.ntmps42
  go_upto_region 4 with fail
  clear hmx
  go_wp2_with (first
   |(go_at_call 81;refine(HSW.out).mono ?_;rintro e w1 ⟨⟨v1,rfl,ho1⟩,hr1,hon1⟩;obtain⟨av1,cv1,rfl⟩:=bf ho1;have e1:=hr1.tn;have HO1:=aa ho1;have HR1:=aa hr1;have HM1:=aa (HM.out.block (hon1.block mb hmm (fun e=>hbm e.symm) (fun e=>hgm e.symm)));have HF1:=aa (Fr.gK (S:=O3 b g mb) hon1 (.inl rfl) (.inr (.inl rfl)));clear ho1 hr1 hon1))
  go_region_held3 (fun w'=>w'.cell? ⟨b,0,none⟩=some (.int .u64 (nw:Int))) (go_keep)
   (first
    |(go_at_call 82;first
      |(refine(HT1.out _).mono ?_;rintro e wx ⟨rfl,hw⟩;subst hw)
      |(refine(HT2.out _).mono ?_;rintro e wx ⟨rfl,hw⟩;subst hw)))
  have HO1d:Hid (w1.drew.ownsRow w.heap.size 3 1 (.slice av1 U.length cv1) U.length (iv (ai U))):=cw HO1.out (fun _ _=>rfl)
  have HR1d:=aa HR1.out.drew
  have HM1d:Hid (dv w1.drew mb fr s):=HM1.out.block rfl
  have HF1d:=aa HF1.out.drew
  have hu1:=HU1.out
  have hw1:w.heap.size<=w1.heap.size:=HF1.out.size
  clear e1 e0 HSW HT1 HT2 HM HO1 HR1 HM1 HF1 HU1
  go_wp2_with (first
   |(go_at_call 83;refine(HFE.out _ HR1d.out HM1d.out).mono ?_;rintro e w2 ⟨ls,HX,⟨v2,rfl,ho2⟩,hr2,hm2,hf2⟩;obtain⟨av2,cv2,rfl⟩:=bf ho2;have HV2:Hid (w2.ownsRow w.heap.size 3 1 (.slice av1 U.length cv1) U.length (iv (ai U))):=cw HO1d.out (fun k hk=>hf2.block k (bn HO1d.out hk).2 (fun q=>by have:=(bn HO1d.out hk).1;rcases q with q|q|q<;>omega));have HO2:=aa ho2;have HR2:=aa hr2;have HM2:=aa hm2;have HF2:=aa (HF1d.out.trans hf2);have hd2:(dZ to nw S ls).length<=1024:=(by have h1:=congrArg List.length HX.out.1;rw[List.length_append] at h1;omega);have hsz2:=hf2.size;clear ho2 hr2 hm2 hf2)
   |(at_builtin;(have hh:=HV2.out;clear hh);refine cK _ rfl _ _ rfl w.heap.size _ _ _ _ _ _ _ rfl HV2.out rfl HO2.out (qw _) (by omega) (yX0 hw1 hsz2) ?_;intro v' w6 hown' hgrow;obtain⟨av,cv,rfl⟩:=bf hown';have hge: ∀k,(Value.slice av1 U.length cv1).ownBlock=some k->w.heap.size<=k:=(fun k hk=>(bn HO1d.out hk).1);have HOx:=aa hown';have HRx:=aa (HR2.out.kept (hgrow.block b HR2.out.bS (fun e=>by have:=hge b e.symm;omega)) (hgrow.block g HR2.out.cY (fun e=>by have:=hge g e.symm;omega)));have HMx:Hid (∃s',dv w6 mb (mF fr ls) s'):=(by obtain⟨s',q⟩:=HM2.out;exact⟨s',q.block (hgrow.block mb q.lt (fun e=>by have:=hge mb e.symm;omega))⟩);have HFx:Hid (Fr (O3 b g mb) w w6):=⟨hgrow.os.trans HF2.out.os,hgrow.tape.trans HF2.out.tape,hgrow.output.trans HF2.out.output,yX0 HF2.out.size hgrow.size,fun k hk hn=>(hgrow.block k (zW0 hk HF2.out.size) (fun e=>by have:=hge k e.symm;omega)).trans (HF2.out.block k hk hn)⟩;clear hown' hgrow hge))
  have hadv:=HI.out.advance hle ht HX.out.2
  have hlenU:U.length+(dZ to nw S ls).length=(due to S).length:=by rw[←HX.out.1,List.length_append]
  have HOz:Hid (w6.ownsRow w.heap.size 3 1 (.slice av (due to S).length cv) (due to S).length (iv (ai (due to S)))):=by
   have q:=HOx.out
   rw[←ga,←dc,HX.out.1,hlenU] at q
   exact q
  have hlenI:(U.length:Int)+((dZ to nw S ls).length:Int)=((due to S).length:Int):=by omega
  rw[hlenU,hlenI]
  clear hlenI
  obtain⟨F',hF'⟩: ∃F',lM to fr ls=F':=⟨_,rfl⟩
  obtain⟨L',hL'⟩: ∃L',lJ to fr ls=L':=⟨_,rfl⟩
  obtain⟨fr',hfr'⟩: ∃fr',mF fr ls=fr':=⟨_,rfl⟩
  rw[hF',hL',hfr'] at hadv
  have HADV:=aa hadv
  have HRz:Hid (aB w6 b g n nw ct (.map (some mb)) F' L' A B E T):=by rw[←hF',←hL'];exact HRx.out
  have HMz:Hid (∃s',dv w6 mb fr' s'):=by rw[←hfr'];exact HMx.out
  have HFz:=HFx
  clear hadv hlenU HOx HRx HMx HFx hF' hL' hfr' HX HI HFE HO1d HR1d HM1d HF1d hu1 hw1 hd2 hsz2 HV2 HO2 HR2 HM2 HF2 hne hneb
  obtain⟨ps,hps⟩: ∃ps,ai (due to S)=ps:=⟨_,rfl⟩
  have hpl:ps.length=(due to S).length:=by rw[←hps,cC]
  obtain⟨N,hN⟩: ∃N,(due to S).length=N:=⟨_,rfl⟩
  rw[hps] at HOz HADV HDN HD0
  have HPS:=aa hps
  rw[hN] at HOz HCL hdl hpl⊢
  have HPL:=aa hpl
  have HNN:=aa hN
  clear hpl hps hN
  obtain⟨c',hc'⟩: ∃c',(late to S).length=c':=⟨_,rfl⟩
  rw[hc'] at HADV HCL
  clear hc'
  go_loopw [34] (fun iv_ wr=> ∃j:Nat,j<=N/\iv_= .int .i64 (j:Int)/\aB wr b g n nw ct (.map (some mb)) F' L' (gS A 0 (ps.take j)) (gS B 0 (ps.take j)) (gS E 0 (ps.take j)) (gS T false (ps.take j))/\(∃s',dv wr mb fr' s')/\Fr (O3 b g mb) w wr/\wr.ownsRow w.heap.size 3 1 (.slice av N cv) N (iv ps)) (fun i _=>N-(intOf i).toNat)
  case atStart=>exact⟨0,by omega,rfl,by rw[List.take_zero,fO,fO,fO,fO];exact HRz.out,HMz.out,HFz.out,HOz.out⟩
  case round=>
   obtain⟨j,hj,rfl,hrep,⟨s2,hm2⟩,hfr,hown⟩:=hrel
   clear HRz HMz HFz HOz
   by_cases hjN:j<N
   ·obtain⟨r,rfl,hrb,hrl,hcell⟩:=lI hown j hjN
    have hjp:j<ps.length:=by have:=HPL.out;omega
    have hpj:ps.getD j 0=ps[j]:=by simp[yV0 hjp]
    have hmem:ps[j]∈ps:=List.getElem_mem _
    have hpn:=HDN.out _ hmem
    obtain⟨q,hq⟩: ∃q,ps[j]=q+1:=⟨ps[j]-1,by have:=HD0.out _ hmem;omega⟩
    rw[hpj,hq] at hcell
    rw[hq] at hpn
    have hcell':wr.cell? ⟨r,j,none⟩=some (.int .i64 (q:Int)):=by
     rw[hcell]
     congr 2
     omega
    have htk:ps.take (j+1)=ps.take j++[q+1]:=by rw[List.take_succ_eq_append_getElem hjp,hq]
    have hnn:=HNN.out
    obtain⟨cp,en⟩:=hrep.en
    have n0:=hrep.ea (q+1) hpn;have n1:=hrep.eb (q+1) hpn;have n2:=hrep.ee (q+1) hpn;have n3:=hrep.et (q+1) hpn
    have fg:=hrep.fg
    have hjN':(j:Int)<(N:Int):=by omega
    have HREP:Hid (aB ((((wr.setCell ⟨g,(q+1)*4,none⟩ (.int .i64 0)).setCell ⟨g,(q+1)*4+1,none⟩ (.int .i64 0)).setCell ⟨g,(q+1)*4+2,none⟩ (.int .u64 0)).setCell ⟨g,(q+1)*4+3,none⟩ (.bool false)) b g n nw ct (.map (some mb)) F' L' (gS A 0 (ps.take (j+1))) (gS B 0 (ps.take (j+1))) (gS E 0 (ps.take (j+1))) (gS T false (ps.take (j+1)))):=by
     rw[htk,eU,eU,eU,eU]
     exact(((hrep.fh (q+1) hpn 0).fe (q+1) hpn 0).EO (q+1) hpn 0).kj (q+1) hpn false
    have hK4: ∀k,k≠g->((((wr.setCell ⟨g,(q+1)*4,none⟩ (.int .i64 0)).setCell ⟨g,(q+1)*4+1,none⟩ (.int .i64 0)).setCell ⟨g,(q+1)*4+2,none⟩ (.int .u64 0)).setCell ⟨g,(q+1)*4+3,none⟩ (.bool false)).heap[k]? =wr.heap[k]? :=fun k hk=>by rw[yY0 _ _ _ _ hk,yY0 _ _ _ _ hk,yY0 _ _ _ _ hk,yY0 _ _ _ _ hk]
    have HMS:=aa (hm2.block (hK4 mb (fun e=>hgm e.symm)))
    have HFS:=aa ((((hfr.setCell (a:=⟨g,(q+1)*4,none⟩) (.inr (.inl rfl)) (.int .i64 0)).setCell (a:=⟨g,(q+1)*4+1,none⟩) (.inr (.inl rfl)) (.int .i64 0)).setCell (a:=⟨g,(q+1)*4+2,none⟩) (.inr (.inl rfl)) (.int .u64 0)).setCell (a:=⟨g,(q+1)*4+3,none⟩) (.inr (.inl rfl)) (.bool false))
    have HOS:=aa (cw hown (fun k hk=>hK4 k (by have:=(bn hown hk).1;omega)))
    have ql:q+1<n+1:=by omega
    have qb:q<=1024:=by omega
    clear hrep hm2 hfr hown hcell hjp hpj hmem hpn hq htk hK4 HCL HADV HPL HNN HDN HD0
    go_wp2
    go_roundw
    case rel=>exact⟨j+1,by omega,by go_num,HREP.out,⟨_,HMS.out⟩,HFS.out,HOS.out⟩
    case measure=>simp[intOf];omega
   ·obtain rfl:j=N:=by omega
    have hjN': ¬(j:Int)<(j:Int):=by omega
    have hct:=HCL.out
    have etc:=hrep.tc
    have etn:=hrep.tn
    have fb:=hrep.fb
    have hps:ps.take j=ps:=List.take_of_length_le (by have:=HPL.out;omega)
    rw[hps] at hrep
    have hcb:ct<=1024+1024:=by have:=HLN.out;omega
    have hwc:IntKind.i64.wrap ((ct:Int)-(j:Int))=(c':Int):=by rw[show((ct:Int)-(j:Int))=(c':Int) by omega];simp[IntKind.wrap,IntKind.bits,IntKind.signed];omega
    have hwc2:(ct:Int)-(j:Int)=(c':Int):=by omega
    have HREP:Hid (aB ((wr.setCell ⟨b,131,none⟩ (.int .i64 (c':Int))).setCell ⟨b,0,none⟩ (.int .u64 (to:Int))) b g n to c' (.map (some mb)) F' L' (gS A 0 ps) (gS B 0 ps) (gS E 0 ps) (gS T false ps)):=(hrep.sm c').FY to
    have hK4: ∀k,k≠b->((wr.setCell ⟨b,131,none⟩ (.int .i64 (c':Int))).setCell ⟨b,0,none⟩ (.int .u64 (to:Int))).heap[k]? =wr.heap[k]? :=fun k hk=>by rw[yY0 _ _ _ _ hk,yY0 _ _ _ _ hk]
    have HMS:=aa (hm2.block (hK4 mb (fun e=>hbm e.symm)))
    have HFS:=aa ((hfr.setCell (a:=⟨b,131,none⟩) (.inl rfl) (.int .i64 (c':Int))).setCell (a:=⟨b,0,none⟩) (.inl rfl) (.int .u64 (to:Int)))
    have HOS:=aa (cw hown (fun k hk=>hK4 k (by have:=(bn hown hk).1;omega)))
    clear hrep hm2 hfr hown hps hK4 HCL HPL HDN HD0 hct
    go_wp2
    go_ret
    exact⟨⟨_,rfl,by rw[HNN.out,HPS.out];exact HOS.out⟩,⟨c',F',L',fr',_,_,_,_,s2,HREP.out,HMS.out,HADV.out,hbm,hgm,hn⟩,HFS.out⟩
end
end Go.Proofs.YtjlbmmiomfpgiaaGreatDoor.Wh
namespace Go.Proofs.YtjlbmmiomfpgiaaGreatDoor.Wh
open Go.RowKit Go.Lib
attribute [local go_sem ↓] Go.wp_at_zero Go.wp_at_succ
theorem Cr (n:Nat) (w:World) (h1:1<=n) (h2:n<=1024):
  Calls Tryz.prog 35 #[.int .i64 n] w fun e w'=> ∃b g mb,e= .returned (.pointer (some ⟨b,0,none⟩))/\(∀k,O3 b g mb k->w.heap.size<=k/\k<w'.heap.size)/\sk w' b g mb n 0 []/\Below w.heap.size w w':=by
 obtain⟨i0,hi,hz0,hz1,hz2⟩:=info_parts xB
 have hmk: ∀w,(Instr.makeSlice 153 (.int .i64 ((n:Int)+1)) (.int .i64 ((n:Int)+1))).run Tryz.prog w= .ok (.slice (some ⟨w.heap.size,0,none⟩) (n+1) (n+1)) (w.alloc (.cells (bo n) 173)):=by
  intro w
  have:=run_make w 153 173 i0 iF Tryz.underlying153 hi hz0 .i64 .i64 ((n:Int)+1) ((n:Int)+1) (by omega) (by omega) (by rw[hz2];omega) (by omega)
  rw[hz1,show((n:Int)+1).toNat=n+1 by omega] at this
  exact this
 have HX:Hid (sk (((w.alloc (.map #[] 0)).alloc (.cells (bo n) 173)).alloc (.cells (aV w.heap.size (w.heap.size+1) n) 158)) (w.heap.size+1+1) (w.heap.size+1) w.heap.size n 0 []):=by
  refine⟨0,_,_,fun _=>none,_,_,_,_,0,gA w n,?_,?_,by omega,by omega,h2⟩
  ·refine(dv.made w).block ?_
   rw[Below.heap_alloc _ _ _ (by simp;omega),Below.heap_alloc _ _ _ (by simp)]
  ·refine⟨List.Pairwise.nil,List.nodup_nil,by simp,by simp,by omega,rfl,fun s hs=>⟨rfl,rfl,trivial⟩,fun k hk=> .inl ⟨rfl,rfl⟩,fun i hi=>(by cases hi),(by simp),fun p hp _=>⟨rfl,rfl⟩⟩
 have hzw:=Eu
 have hzs:=fy
 have hmm:= @run_makeMap Tryz.prog
 clear hi hz0 hz1 hz2
 go_enter Tryz.func35,Tryz.ntmps35
 go_wp2
 go_ret
 refine⟨_,_,_,rfl,?_,HX.out,(((z9 _ _).alloc (i8 _) _).alloc (by simp) _).alloc (by simp;omega) _⟩
 rintro k (rfl|rfl|rfl)<;>simp<;>omega
end Go.Proofs.YtjlbmmiomfpgiaaGreatDoor.Wh

/- YtjlbmmiomfpgiaaGreatDoorGk: of the texts V1 Wa1 Wa0 Wa2 V2 V3 Wa3 Wa4 Wa5 Wa6 Wa7 Wa8 Wa9 Wb1 Wb2 Wb3 Wb4 Wb5 Wb6 Wg1 what is wanted. -/
import Derived.Test.YtjlbmmiomfpgiaaGreatDoorRows
import Derived.WalkKit
import Derived.Below
import Derived.WalkSpells
import Derived.WalkLawsBesides
import Derived.StillTactics
import Derived.RegionTactic
import Derived.RowKit3
import Derived.Laws.MakeOwn
import Derived.OwnWalk
import Derived.Deep.QuietTactic
import Derived.BigQuiet
import Derived.Maps.OwnSet
import Derived.Maps.RangeWalk
import Derived.Deep.RegionHeld3
import Derived.Deep.DrawnRows
import Derived.Lib.SmallJoins
import Derived.Maps.Own
import Derived.Deep.Cut
import Derived.Laws.OwnMore
import Derived.Laws.IdiomCopy
import Derived.Sort.OwnSorted
set_option maxHeartbeats 16000000
set_option maxRecDepth 100000
set_option linter.unusedVariables false
set_option linter.unusedSimpArgs false
namespace Go.Proofs.YtjlbmmiomfpgiaaGreatDoor.Wh
open Go.RowKit
theorem aa {p:Prop} (h:p):Hid p:=h
def aw {α:Type} (f:Nat→α) (i:Nat) (x:α):Nat→α:=fun j=>if j=i then x else f j
theorem aj {α:Type} (f:Nat→α) (i:Nat) (x:α):aw f i x i=x:=by simp[aw]
theorem af {α:Type} (f:Nat→α) (i:Nat) (x:α) (j:Nat) (h:j≠i):aw f i x j=f j:=by simp[aw,h]
theorem au (w:World) (a:Addr) (x u:Value) (h:w.cell? a=some u):(w.setCell a x).cell? a=some x:=World.cell?_setCell_same _ _ _ h
theorem ab (w:World) (b o b' o':Nat) (x:Value) (h: ¬(b=b'∧o=o')):(w.setCell ⟨b,o,none⟩ x).cell? ⟨b',o',none⟩=w.cell? ⟨b',o',none⟩:=
 World.cell?_setCell_other _ _ _ _ (by intro e;simp only[Addr.mk.injEq,and_true] at e;exact h e)
structure aJ (b g:Nat) (w w':World):Prop where
 os:w'.os=w.os
 tape:w'.tape=w.tape
 output:w'.output=w.output
 size:w.heap.size≤w'.heap.size
 block: ∀k,k<w.heap.size→k≠b→k≠g→w'.heap[k]? =w.heap[k]?
theorem aJ.refl (b g:Nat) (w:World):aJ b g w w:=⟨rfl,rfl,rfl,Nat.le_refl _,fun _ _ _ _=>rfl⟩
theorem aJ.trans {b g:Nat} {w1 w2 w3:World} (h:aJ b g w1 w2) (k:aJ b g w2 w3):aJ b g w1 w3:=
 ⟨k.os.trans h.os,k.tape.trans h.tape,k.output.trans h.output,Nat.le_trans h.size k.size,fun i hi a c=>(k.block i (Nat.lt_of_lt_of_le hi h.size) a c).trans (h.block i hi a c)⟩
theorem aJ.set {b g:Nat} {w w':World} (h:aJ b g w w') (p:Addr) (x:Value) (hp:p.block=b∨p.block=g):aJ b g w (w'.setCell p x):=
 ⟨h.os,h.tape,h.output,by simp[World.setCell];exact h.size,fun k hk a c=>by rw[Below.heap_setCell _ _ _ _ (by rcases hp with e|e<;>omega)];exact h.block k hk a c⟩
theorem aJ.fA {b g:Nat} {w w':World} (h:Below w.heap.size w w'):aJ b g w w':=⟨h.os,h.tape,h.output,h.size,fun k hk _ _=>h.block k hk⟩
structure aE (w:World) (b g n nw ct:Nat) (fm:Value) (F L A B E:Nat→Nat) (T:Nat→Bool):Prop where
 bg:b≠g
 en: ∃cp,w.cell? ⟨b,130,none⟩=some (.slice (some ⟨g,0,none⟩) (n+1) cp)
 tn:w.cell? ⟨b,0,none⟩=some (.int .u64 (nw:Int))
 tm:w.cell? ⟨b,129,none⟩=some (fm)
 tc:w.cell? ⟨b,131,none⟩=some (.int .i64 (ct:Int))
 sf: ∀x,x<64→w.cell? ⟨b,1+x*2,none⟩=some (.int .i64 ((F x:Nat):Int))
 sl: ∀x,x<64→w.cell? ⟨b,1+x*2+1,none⟩=some (.int .i64 ((L x:Nat):Int))
 ea: ∀x,x≤n→w.cell? ⟨g,x*4,none⟩=some (.int .i64 ((A x:Nat):Int))
 eb: ∀x,x≤n→w.cell? ⟨g,x*4+1,none⟩=some (.int .i64 ((B x:Nat):Int))
 ee: ∀x,x≤n→w.cell? ⟨g,x*4+2,none⟩=some (.int .u64 ((E x:Nat):Int))
 et: ∀x,x≤n→w.cell? ⟨g,x*4+3,none⟩=some (.bool (T x))
 fb: ∀o,w.frozen? ⟨b,o,none⟩=false
 fg: ∀o,w.frozen? ⟨g,o,none⟩=false
section
variable {w:World} {b g n nw ct:Nat} {fm:Value} {F L A B E:Nat→Nat} {T:Nat→Bool}
theorem aE.cY (h:aE w b g n nw ct fm F L A B E T):b<w.heap.size:=World.block_lt_of_cell? w ⟨b,0,none⟩ h.tn
theorem aE.dD (h:aE w b g n nw ct fm F L A B E T):g<w.heap.size:=World.block_lt_of_cell? w ⟨g,0*4,none⟩ (h.ea 0 (Nat.zero_le _))
theorem aE.kept {w':World} (h:aE w b g n nw ct fm F L A B E T) (hb:w'.heap[b]? =w.heap[b]?) (hg:w'.heap[g]? =w.heap[g]?):aE w' b g n nw ct fm F L A B E T:=by
 have eb: ∀o,w'.cell? ⟨b,o,none⟩=w.cell? ⟨b,o,none⟩:=fun o=>by simp only[World.cell?,hb]
 have eg: ∀o,w'.cell? ⟨g,o,none⟩=w.cell? ⟨g,o,none⟩:=fun o=>by simp only[World.cell?,hg]
 have ib: ∀o,w'.frozen? ⟨b,o,none⟩=w.frozen? ⟨b,o,none⟩:=fun o=>by simp only[World.frozen?,hb]
 have ig: ∀o,w'.frozen? ⟨g,o,none⟩=w.frozen? ⟨g,o,none⟩:=fun o=>by simp only[World.frozen?,hg]
 exact⟨h.bg,by simp only[eb];exact h.en,by rw[eb];exact h.tn,by rw[eb];exact h.tm,by rw[eb];exact h.tc,fun x hx=>by rw[eb];exact h.sf x hx,fun x hx=>by rw[eb];exact h.sl x hx,fun x hx=>by rw[eg];exact h.ea x hx,fun x hx=>by rw[eg];exact h.eb x hx,fun x hx=>by rw[eg];exact h.ee x hx,fun x hx=>by rw[eg];exact h.et x hx,fun o=>by rw[ib];exact h.fb o,fun o=>by rw[ig];exact h.fg o⟩
theorem aE.eI {w':World} (h:aE w b g n nw ct fm F L A B E T) (e:w'.heap=w.heap):aE w' b g n nw ct fm F L A B E T:=h.kept (by rw[e]) (by rw[e])
theorem aE.drew (h:aE w b g n nw ct fm F L A B E T):aE w.drew b g n nw ct fm F L A B E T:=h.eI rfl
theorem aE.below (h:aE w b g n nw ct fm F L A B E T) {w':World} (hw:Below w.heap.size w w'):aE w' b g n nw ct fm F L A B E T:=h.kept (hw.block b h.cY) (hw.block g h.dD)
theorem aE.alloc (h:aE w b g n nw ct fm F L A B E T) (o:Obj):aE (w.alloc o) b g n nw ct fm F L A B E T:=h.below ((Below.refl _ _).alloc (Nat.le_refl _) o)
theorem aE.Ep (h:aE w b g n nw ct fm F L A B E T) (v:Nat):aE (w.setCell ⟨b,0,none⟩ (.int .u64 (v:Int))) b g n v ct fm F L A B E T:=
 ⟨h.bg,by obtain⟨cp,q⟩:=h.en;exact⟨cp,by rw[ab _ _ _ _ _ _ (by have:=h.bg;omega)];exact q⟩,au _ _ _ _ h.tn,by rw[ab _ _ _ _ _ _ (by have:=h.bg;omega)];exact h.tm,by rw[ab _ _ _ _ _ _ (by have:=h.bg;omega)];exact h.tc,
  fun x hx=>by rw[ab _ _ _ _ _ _ (by have:=h.bg;omega)];exact h.sf x hx,
  fun x hx=>by rw[ab _ _ _ _ _ _ (by have:=h.bg;omega)];exact h.sl x hx,
  fun x hx=>by rw[ab _ _ _ _ _ _ (by have:=h.bg;omega)];exact h.ea x hx,
  fun x hx=>by rw[ab _ _ _ _ _ _ (by have:=h.bg;omega)];exact h.eb x hx,
  fun x hx=>by rw[ab _ _ _ _ _ _ (by have:=h.bg;omega)];exact h.ee x hx,
  fun x hx=>by rw[ab _ _ _ _ _ _ (by have:=h.bg;omega)];exact h.et x hx,
  fun o=>by simpa using h.fb o,fun o=>by simpa using h.fg o⟩
theorem aE.vV (h:aE w b g n nw ct fm F L A B E T) (v:Nat):aE (w.setCell ⟨b,131,none⟩ (.int .i64 (v:Int))) b g n nw v fm F L A B E T:=
 ⟨h.bg,by obtain⟨cp,q⟩:=h.en;exact⟨cp,by rw[ab _ _ _ _ _ _ (by have:=h.bg;omega)];exact q⟩,by rw[ab _ _ _ _ _ _ (by have:=h.bg;omega)];exact h.tn,by rw[ab _ _ _ _ _ _ (by have:=h.bg;omega)];exact h.tm,au _ _ _ _ h.tc,
  fun x hx=>by rw[ab _ _ _ _ _ _ (by have:=h.bg;omega)];exact h.sf x hx,
  fun x hx=>by rw[ab _ _ _ _ _ _ (by have:=h.bg;omega)];exact h.sl x hx,
  fun x hx=>by rw[ab _ _ _ _ _ _ (by have:=h.bg;omega)];exact h.ea x hx,
  fun x hx=>by rw[ab _ _ _ _ _ _ (by have:=h.bg;omega)];exact h.eb x hx,
  fun x hx=>by rw[ab _ _ _ _ _ _ (by have:=h.bg;omega)];exact h.ee x hx,
  fun x hx=>by rw[ab _ _ _ _ _ _ (by have:=h.bg;omega)];exact h.et x hx,
  fun o=>by simpa using h.fb o,fun o=>by simpa using h.fg o⟩
theorem aE.fi (h:aE w b g n nw ct fm F L A B E T) (p:Nat) (hp:p≤n) (v:Nat):aE (w.setCell ⟨g,p*4,none⟩ (.int .i64 (v:Int))) b g n nw ct fm F L (aw A p v) B E T:=
 ⟨h.bg,by obtain⟨cp,q⟩:=h.en;exact⟨cp,by rw[ab _ _ _ _ _ _ (by have:=h.bg;omega)];exact q⟩,by rw[ab _ _ _ _ _ _ (by have:=h.bg;omega)];exact h.tn,by rw[ab _ _ _ _ _ _ (by have:=h.bg;omega)];exact h.tm,by rw[ab _ _ _ _ _ _ (by have:=h.bg;omega)];exact h.tc,
  fun x hx=>by rw[ab _ _ _ _ _ _ (by have:=h.bg;omega)];exact h.sf x hx,
  fun x hx=>by rw[ab _ _ _ _ _ _ (by have:=h.bg;omega)];exact h.sl x hx,
  fun x hx=>by
   by_cases e:x=p
   ·subst e;rw[aj];exact au _ _ _ _ (h.ea x hx)
   ·rw[af _ _ _ _ e,ab _ _ _ _ _ _ (by have:=h.bg;omega)];exact h.ea x hx,
  fun x hx=>by rw[ab _ _ _ _ _ _ (by have:=h.bg;omega)];exact h.eb x hx,
  fun x hx=>by rw[ab _ _ _ _ _ _ (by have:=h.bg;omega)];exact h.ee x hx,
  fun x hx=>by rw[ab _ _ _ _ _ _ (by have:=h.bg;omega)];exact h.et x hx,
  fun o=>by simpa using h.fb o,fun o=>by simpa using h.fg o⟩
theorem aE.eM (h:aE w b g n nw ct fm F L A B E T) (p:Nat) (hp:p≤n) (v:Nat):aE (w.setCell ⟨g,p*4+1,none⟩ (.int .i64 (v:Int))) b g n nw ct fm F L A (aw B p v) E T:=
 ⟨h.bg,by obtain⟨cp,q⟩:=h.en;exact⟨cp,by rw[ab _ _ _ _ _ _ (by have:=h.bg;omega)];exact q⟩,by rw[ab _ _ _ _ _ _ (by have:=h.bg;omega)];exact h.tn,by rw[ab _ _ _ _ _ _ (by have:=h.bg;omega)];exact h.tm,by rw[ab _ _ _ _ _ _ (by have:=h.bg;omega)];exact h.tc,
  fun x hx=>by rw[ab _ _ _ _ _ _ (by have:=h.bg;omega)];exact h.sf x hx,
  fun x hx=>by rw[ab _ _ _ _ _ _ (by have:=h.bg;omega)];exact h.sl x hx,
  fun x hx=>by rw[ab _ _ _ _ _ _ (by have:=h.bg;omega)];exact h.ea x hx,
  fun x hx=>by
   by_cases e:x=p
   ·subst e;rw[aj];exact au _ _ _ _ (h.eb x hx)
   ·rw[af _ _ _ _ e,ab _ _ _ _ _ _ (by have:=h.bg;omega)];exact h.eb x hx,
  fun x hx=>by rw[ab _ _ _ _ _ _ (by have:=h.bg;omega)];exact h.ee x hx,
  fun x hx=>by rw[ab _ _ _ _ _ _ (by have:=h.bg;omega)];exact h.et x hx,
  fun o=>by simpa using h.fb o,fun o=>by simpa using h.fg o⟩
theorem aE.EG (h:aE w b g n nw ct fm F L A B E T) (p:Nat) (hp:p≤n) (v:Nat):aE (w.setCell ⟨g,p*4+2,none⟩ (.int .u64 (v:Int))) b g n nw ct fm F L A B (aw E p v) T:=
 ⟨h.bg,by obtain⟨cp,q⟩:=h.en;exact⟨cp,by rw[ab _ _ _ _ _ _ (by have:=h.bg;omega)];exact q⟩,by rw[ab _ _ _ _ _ _ (by have:=h.bg;omega)];exact h.tn,by rw[ab _ _ _ _ _ _ (by have:=h.bg;omega)];exact h.tm,by rw[ab _ _ _ _ _ _ (by have:=h.bg;omega)];exact h.tc,
  fun x hx=>by rw[ab _ _ _ _ _ _ (by have:=h.bg;omega)];exact h.sf x hx,
  fun x hx=>by rw[ab _ _ _ _ _ _ (by have:=h.bg;omega)];exact h.sl x hx,
  fun x hx=>by rw[ab _ _ _ _ _ _ (by have:=h.bg;omega)];exact h.ea x hx,
  fun x hx=>by rw[ab _ _ _ _ _ _ (by have:=h.bg;omega)];exact h.eb x hx,
  fun x hx=>by
   by_cases e:x=p
   ·subst e;rw[aj];exact au _ _ _ _ (h.ee x hx)
   ·rw[af _ _ _ _ e,ab _ _ _ _ _ _ (by have:=h.bg;omega)];exact h.ee x hx,
  fun x hx=>by rw[ab _ _ _ _ _ _ (by have:=h.bg;omega)];exact h.et x hx,
  fun o=>by simpa using h.fb o,fun o=>by simpa using h.fg o⟩
theorem aE.mw (h:aE w b g n nw ct fm F L A B E T) (p:Nat) (hp:p≤n) (v:Bool):aE (w.setCell ⟨g,p*4+3,none⟩ (.bool v)) b g n nw ct fm F L A B E (aw T p v):=
 ⟨h.bg,by obtain⟨cp,q⟩:=h.en;exact⟨cp,by rw[ab _ _ _ _ _ _ (by have:=h.bg;omega)];exact q⟩,by rw[ab _ _ _ _ _ _ (by have:=h.bg;omega)];exact h.tn,by rw[ab _ _ _ _ _ _ (by have:=h.bg;omega)];exact h.tm,by rw[ab _ _ _ _ _ _ (by have:=h.bg;omega)];exact h.tc,
  fun x hx=>by rw[ab _ _ _ _ _ _ (by have:=h.bg;omega)];exact h.sf x hx,
  fun x hx=>by rw[ab _ _ _ _ _ _ (by have:=h.bg;omega)];exact h.sl x hx,
  fun x hx=>by rw[ab _ _ _ _ _ _ (by have:=h.bg;omega)];exact h.ea x hx,
  fun x hx=>by rw[ab _ _ _ _ _ _ (by have:=h.bg;omega)];exact h.eb x hx,
  fun x hx=>by rw[ab _ _ _ _ _ _ (by have:=h.bg;omega)];exact h.ee x hx,
  fun x hx=>by
   by_cases e:x=p
   ·subst e;rw[aj];exact au _ _ _ _ (h.et x hx)
   ·rw[af _ _ _ _ e,ab _ _ _ _ _ _ (by have:=h.bg;omega)];exact h.et x hx,
  fun o=>by simpa using h.fb o,fun o=>by simpa using h.fg o⟩
end
end Go.Proofs.YtjlbmmiomfpgiaaGreatDoor.Wh
namespace Go.Proofs.YtjlbmmiomfpgiaaGreatDoor.Wh
structure It where
 i:Nat
 t:Nat
def mD (S:List It):Prop:=S.Pairwise (fun a c=>a.t≤c.t)
def ky (nw:Nat) (x:It):Nat:=max x.t nw
def me (nw:Nat) (S:List It) (k:Nat):List It:=S.filter (fun x=>ky nw x==k)
def due (to:Nat) (S:List It):List It:=S.filter (fun x=>decide (x.t≤to))
def late (to:Nat) (S:List It):List It:=S.filter (fun x=> !decide (x.t≤to))
def ai (S:List It):List Nat:=S.map (fun x=>x.i+1)
section
variable {S:List It} {x:It} {p:It→Bool}
theorem mD.filter (h:mD S) (q:It→Bool):mD (S.filter q):=List.Pairwise.filter q h
theorem iG: ∀{S:List It},mD S→(∀a c:It,a.t≤c.t→p c=true→p a=true)→S.filter p++S.filter (fun y=> !p y)=S
 |[],_,_=>rfl
 |a::S,h,hp=>by
  obtain⟨h1,h2⟩:=List.pairwise_cons.1 h
  cases hq:p a with
  |true=>simp[hq,iG h2 hp]
  |false=>
   have e: ∀y∈S,p y=false:=fun y hy=>by
    cases hz:p y with
    |false=>rfl
    |true=>rw[hp a y (h1 y hy) hz] at hq;cases hq
   have e1:S.filter p=[]:=List.filter_eq_nil_iff.2 (fun y hy=>by rw[e y hy];simp)
   have e2:S.filter (fun y=> !p y)=S:=List.filter_eq_self.2 (fun y hy=>by rw[e y hy];rfl)
   simp[hq,e1,e2]
theorem x9 (h:mD S) (a:Nat):S.filter (fun y=>decide (y.t≤a))++S.filter (fun y=> !decide (y.t≤a))=S:=
 iG h (fun c d hcd hd=>by simp at hd⊢;omega)
theorem xe (h:mD S) (to:Nat):due to S++late to S=S:=x9 h to
def eL (nw:Nat) (S:List It) (lo:Nat):Nat→List It
 |0=>[]
 |m+1=>eL nw S lo m++me nw S (lo+m)
theorem ub (h:mD S) (nw lo m:Nat):eL nw S lo m=S.filter (fun x=>decide (lo≤ky nw x)&&decide (ky nw x<lo+m)):=by
 induction m with
 |zero=>
  unfold eL
  symm
  rw[List.filter_eq_nil_iff]
  intro a ha
  simp
 |succ m ih=>
  unfold eL
  rw[ih]
  have hs:=iG (p:=fun x=>decide (ky nw x<lo+m)) (h.filter (fun x=>decide (lo≤ky nw x)&&decide (ky nw x<lo+(m+1)))) (fun a c hac hc=>decide_eq_true (by have hc:=of_decide_eq_true hc;unfold ky at*;omega))
  rw[←hs,List.filter_filter,List.filter_filter]
  congr 1
  ·congr 1
   funext y
   rw[Bool.eq_iff_iff]
   simp
   omega
  ·unfold me
   congr 1
   funext y
   rw[Bool.eq_iff_iff]
   simp
   omega
theorem dI (S:List It):(ai S).length=S.length:=by simp[ai]
theorem iZ (S T:List It):ai (S++T)=ai S++ai T:=by simp[ai]
theorem eH {q:Nat}:q∈ai S↔ ∃y∈S,y.i+1=q:=by simp[ai]
theorem uE: ∀q∈ai S,q≠0:=fun q hq=>by obtain⟨y,_,rfl⟩:=eH.1 hq;omega
end
def q9 (A B:Nat→Nat):Nat→List Nat→Nat→Prop
 |_,[],_=>True
 |p,x::xs,q=>A x=p∧B x=xs.headD q∧q9 A B x xs q
structure rV (A B:Nat→Nat) (f l:Nat) (xs:List Nat):Prop where
 f:f=xs.headD 0
 l:l=xs.getLastD 0
 s:q9 A B 0 xs 0
section
variable {A B A' B':Nat→Nat} {xs ys:List Nat} {p q x:Nat}
theorem oT (xs ys:List Nat) (d:Nat):(xs++ys).headD d=xs.headD (ys.headD d):=by cases xs<;>simp
theorem q9.append: ∀{xs:List Nat} {p:Nat},q9 A B p (xs++ys) q↔q9 A B p xs (ys.headD q)∧q9 A B (xs.getLastD p) ys q
 |[],p=>by simp[q9]
 |x::xs,p=>by
  show(A x=p∧B x=(xs++ys).headD q∧q9 A B x (xs++ys) q)↔(A x=p∧B x=xs.headD (ys.headD q)∧q9 A B x xs (ys.headD q))∧q9 A B ((x::xs).getLastD p) ys q
  rw[oT,q9.append (xs:=xs),show(x::xs).getLastD p=xs.getLastD x by cases xs<;>simp[List.getLastD]]
  constructor
  ·rintro⟨a,b,c,d⟩;exact⟨⟨a,b,c⟩,d⟩
  ·rintro⟨⟨a,b,c⟩,d⟩;exact⟨a,b,c,d⟩
theorem q9.congr: ∀{xs:List Nat} {p:Nat},q9 A B p xs q→(∀x∈xs,A' x=A x∧B' x=B x)→q9 A' B' p xs q
 |[],_,_,_=>trivial
 |x::xs,p,⟨a,b,c⟩,h=>by
  have hx:=h x (by simp)
  exact⟨hx.1.trans a,hx.2.trans b,c.congr (fun y hy=>h y (by simp[hy]))⟩
variable {P Q:List Nat} {f l:Nat}
theorem rV.Fk (h:rV A B f l (P++x::Q)):A x=P.getLastD 0∧B x=Q.headD 0:=by
 obtain⟨_,s2⟩:=q9.append.1 h.s
 exact⟨s2.1,s2.2.1⟩
theorem rV.congr (h:rV A B f l xs) (hc: ∀x∈xs,A' x=A x∧B' x=B x):rV A' B' f l xs:=⟨h.f,h.l,h.s.congr hc⟩
theorem rV.nil:rV A B 0 0 []:=⟨rfl,rfl,trivial⟩
end
open Go.RowKit
open Go.Maps (Keyed)
def RL:Value→Option (DataW Unit×List MemPlace)
 | .agg ⟨[.int .i64 a,.int .i64 c]⟩=>some (.agg [.lit (.int .i64 a),.lit (.int .i64 c)],[])
 |_=>none
def fY (w:World) (mb:Nat) (f:Int→Option (Nat×Nat)) (s:Nat):Prop:=
 ∃D:DataW Unit,w.ownsMap Tryz.prog 25 RL mb s D∧(∀i,Maps.has D (.int .u64 i)=(f i).isSome)∧(∀i c zd,f i=some c→D.atKey (.int .u64 i) zd= .agg [.lit (.int .i64 (c.1:Int)),.lit (.int .i64 (c.2:Int))])∧Maps.size D=s
section
variable {w w':World} {mb s:Nat} {f:Int→Option (Nat×Nat)}
theorem fY.made (w:World):fY (w.alloc (.map #[] 0)) w.heap.size (fun _=>none) 0:=
 ⟨.map [],World.ownsMap_made w _ _ _,fun _=>rfl,fun i c zd h=>(by cases h),rfl⟩
theorem fY.lt (h:fY w mb f s):mb<w.heap.size:=by obtain⟨D,h,_⟩:=h;exact h.lt
theorem fY.block (h:fY w mb f s) (hb:w'.heap[mb]? =w.heap[mb]?):fY w' mb f s:=by
 obtain⟨D,⟨es,clock,h0,h1⟩,h2⟩:=h
 exact⟨D,⟨es,clock,by rw[hb];exact h0,h1⟩,h2⟩
end
end Go.Proofs.YtjlbmmiomfpgiaaGreatDoor.Wh
namespace Go.Proofs.YtjlbmmiomfpgiaaGreatDoor.Wh
structure Inv (n nw ct:Nat) (F L:Nat→Nat) (fr:Int→Option (Nat×Nat)) (A B E:Nat→Nat) (T:Nat→Bool) (S:List It):Prop where
 srt:mD S
 nd:(S.map (·.i)).Nodup
 lt: ∀x∈S,x.i<n
 tm: ∀x∈S,x.t<18446744073709551616
 hw:nw<18446744073709551616
 hc:ct=S.length
 slot: ∀s,s<64→rV A B (F s) (L s) (ai (me nw S (nw/64*64+s)))
 fu: ∀k:Nat,nw/64<k/64→(fr (k:Int)=none∧me nw S k=[])∨(∃f l:Nat,fr (k:Int)=some (f,l)∧me nw S k≠[]∧rV A B f l (ai (me nw S k)))
 out: ∀i:Int,(fr i).isSome=true→ ∃k:Nat,i=(k:Int)∧nw/64<k/64
 nP: ∀x∈S,T (x.i+1)=true∧E (x.i+1)=x.t
 zer: ∀p,p≤n→(∀x∈S,x.i+1≠p)→T p=false∧E p=0
def kA (nw:Nat) (F L:Nat→Nat) (fr:Int→Option (Nat×Nat)) (k:Nat):Nat×Nat:=if k/64=nw/64 then(F (k%64),L (k%64)) else(fr (k:Int)).getD (0,0)
section
variable {n nw ct:Nat} {F L:Nat→Nat} {fr:Int→Option (Nat×Nat)} {A B E A' B' E':Nat→Nat} {T T':Nat→Bool} {S S':List It}
theorem Inv.list (h:Inv n nw ct F L fr A B E T S) (k:Nat) (hk:nw≤k):rV A B (kA nw F L fr k).1 (kA nw F L fr k).2 (ai (me nw S k)):=by
 unfold kA
 by_cases e:k/64=nw/64
 ·rw[if_pos e]
  have:=h.slot (k%64) (Nat.mod_lt _ (by decide))
  rwa [show nw/64*64+k%64=k by omega] at this
 ·rw[if_neg e]
  rcases h.fu k (by omega) with ⟨e1,e2⟩|⟨f,l,e1,_,e2⟩
  ·rw[e1,e2];exact rV.nil
  ·rw[e1];exact e2
theorem DY (h:(S.map (·.i)).Nodup) {x y:It} (hx:x∈S) (hy:y∈S) (e:x.i=y.i):x=y:=by
 induction S with
 |nil=>cases hx
 |cons a S ih=>
  obtain⟨h1,h2⟩:=List.nodup_cons.1 h
  rcases List.mem_cons.1 hx with rfl|hx'<;>rcases List.mem_cons.1 hy with rfl|hy'
  ·rfl
  ·exact absurd (List.mem_map.2 ⟨y,hy',e.symm⟩) h1
  ·exact absurd (List.mem_map.2 ⟨x,hx',e⟩) h1
  ·exact ih h2 hx' hy'
theorem ta {k:Nat} {x:It}:x∈me nw S k↔x∈S∧ky nw x=k:=by
 unfold me
 rw[List.mem_filter]
 simp
theorem xP (h:(S.map (·.i)).Nodup):(ai S).Nodup:=by
 unfold ai
 induction S with
 |nil=>exact List.nodup_nil
 |cons a S ih=>
  obtain⟨h1,h2⟩:=List.nodup_cons.1 h
  rw[List.map_cons,List.nodup_cons]
  refine⟨fun q=>h1 ?_,ih h2⟩
  obtain⟨y,hy,e⟩:=List.mem_map.1 q
  exact List.mem_map.2 ⟨y,hy,by show y.i=a.i;omega⟩
theorem wk {q:It→Bool} (h:(S.map (·.i)).Nodup):((S.filter q).map (·.i)).Nodup:=h.sublist (List.Sublist.map _ List.filter_sublist)
theorem iT {to:Nat} {x:It}:x∈late to S↔x∈S∧to<x.t:=by
 unfold late
 rw[List.mem_filter]
 simp
theorem oG {to:Nat} {x:It}:x∈due to S↔x∈S∧x.t≤to:=by
 unfold due
 rw[List.mem_filter]
 simp
theorem iR {to:Nat} (h:nw≤to) (j:Nat):me to (late to S) j=if j≤to then [] else me nw S j:=by
 unfold me late
 rw[List.filter_filter]
 by_cases hj:j≤to
 ·rw[if_pos hj,List.filter_eq_nil_iff]
  intro a ha
  simp[ky]
  omega
 ·rw[if_neg hj]
  congr 1
  funext y
  rw[Bool.eq_iff_iff]
  simp[ky]
  omega
theorem Inv.Fl (h:Inv n nw ct F L fr A B E T S) {F' L':Nat→Nat} {fr':Int→Option (Nat×Nat)} (to:Nat) (hto:nw≤to) (ht:to<18446744073709551616)
  (hs: ∀s,s<64→if to/64*64+s≤to then F' s=0∧L' s=0 else F' s=(kA nw F L fr (to/64*64+s)).1∧L' s=(kA nw F L fr (to/64*64+s)).2)
  (hf: ∀k:Nat,to/64<k/64→fr' (k:Int)=fr (k:Int)) (ho: ∀i:Int,(fr' i).isSome=true→ ∃k:Nat,i=(k:Int)∧to/64<k/64)
  (hAB: ∀y∈S,to<y.t→A' (y.i+1)=A (y.i+1)∧B' (y.i+1)=B (y.i+1)∧E' (y.i+1)=E (y.i+1)∧T' (y.i+1)=T (y.i+1))
  (hz: ∀p,p≤n→(∀y∈S,to<y.t→y.i+1≠p)→T' p=false∧E' p=0):
  Inv n to (late to S).length F' L' fr' A' B' E' T' (late to S):=by
 have hc: ∀j f l,to<j→rV A B f l (ai (me nw S j))→rV A' B' f l (ai (me to (late to S) j)):=fun j f l hj hl=>by
  rw[iR hto,if_neg (by omega)]
  refine hl.congr (fun p hp=> ?_)
  obtain⟨y,hy,rfl⟩:=eH.1 hp
  obtain⟨h1,h2⟩:=ta.1 hy
  have:=hAB y h1 (by unfold ky at h2;omega)
  exact⟨this.1,this.2.1⟩
 refine⟨h.srt.filter _,wk h.nd,fun x hx=>h.lt x (iT.1 hx).1,fun x hx=>h.tm x (iT.1 hx).1,ht,rfl,fun s hs'=> ?_,fun k hk=> ?_,ho,fun x hx=> ?_,fun p hp hq=> ?_⟩
 ·have:=hs s hs'
  by_cases e:to/64*64+s≤to
  ·rw[if_pos e] at this
   rw[this.1,this.2,iR hto,if_pos e]
   exact rV.nil
  ·rw[if_neg e] at this
   rw[this.1,this.2]
   exact hc _ _ _ (by omega) (h.list _ (by omega))
 ·rw[hf k hk,iR hto,if_neg (by omega)]
  rcases h.fu k (by omega) with ⟨e1,e2⟩|⟨f,l,e1,e2,e3⟩
  ·exact .inl ⟨e1,e2⟩
  ·refine .inr ⟨f,l,e1,e2,?_⟩
   have:=hc k f l (by omega) e3
   rwa [iR hto,if_neg (by omega)] at this
 ·obtain⟨h1,h2⟩:=iT.1 hx
  have:=hAB x h1 h2
  rw[this.2.2.2,this.2.2.1]
  exact h.nP x h1
 ·exact hz p hp (fun y hy hy2=>hq y (iT.2 ⟨hy,hy2⟩))
end
open Go.RowKit
attribute [local go_sem ↓] Go.wp_at_zero Go.wp_at_succ
def gX:Value:= .agg #[.int .i64 0,.int .i64 0,.int .u64 0,.bool false]
def bo (n:Nat):Array Value:=madeCells gX.cells ((n+1)*4)
theorem vD:(Tryz.prog.info? 173).map (fun i=>(i.zero,i.size,i.bytes))=some (some gX,4,32):=by kernel_rfl
def zeroCells:Array Value:= #[.int .u64 0]++(Array.replicate 128 (.int .i64 0)++ #[.map none,.slice none 0 0,.int .i64 0])
theorem eF:zeroCells.size=132:=by unfold zeroCells;simp
theorem BS (w:World):(zeroValue 158).run Tryz.prog w= .ok (.agg zeroCells) w:=by kernel_rfl
theorem aB (w:World) (c:Array Value) (t:TypeId) (i:Nat):(w.alloc (.cells c t)).cell? ⟨w.heap.size,i,none⟩=c[i]? :=by
 unfold World.cell?
 simp only[(MapKept.heap_alloc w (.cells c t)).1]
 rfl
theorem aF (w:World) (c:Array Value) (t:TypeId) (i:Nat):(w.alloc (.cells c t)).frozen? ⟨w.heap.size,i,none⟩=false:=by
 unfold World.frozen?
 simp only[(MapKept.heap_alloc w (.cells c t)).1]
 simp
theorem iQ (n k:Nat) (h:k<(n+1)*4):(bo n)[k]? =some ((#[Value.int .i64 0,.int .i64 0,.int .u64 0,.bool false]:Array Value)[k%4]!):=by
 unfold bo madeCells gX
 simp[Value.cells,h]
def aS (r g n:Nat):Array Value:=(zeroCells.setIfInBounds 129 (.map (some r))).setIfInBounds 130 (.slice (some ⟨g,0,none⟩) (n+1) (n+1))
theorem qT (r g n i:Nat) (h1:1≤i) (h2:i≤128):(aS r g n)[i]? =some (.int .i64 0):=by
 unfold aS
 rw[Array.getElem?_setIfInBounds_ne (by omega),Array.getElem?_setIfInBounds_ne (by omega)]
 unfold zeroCells
 rw[Array.getElem?_append_right (by simp;omega),Array.getElem?_append_left (by simp;omega)]
 have hi:i-1<128:=by omega
 simp[hi]
theorem A7 (r g n:Nat):(aS r g n)[0]? =some (.int .u64 0):=by
 unfold aS
 rw[Array.getElem?_setIfInBounds_ne (by omega),Array.getElem?_setIfInBounds_ne (by omega)]
 unfold zeroCells
 rw[Array.getElem?_append_left (by simp)]
 rfl
theorem vu (r g n:Nat):(aS r g n)[129]? =some (.map (some r)):=by
 unfold aS
 rw[Array.getElem?_setIfInBounds_ne (by omega),Array.getElem?_setIfInBounds_self_of_lt (by rw[eF];omega)]
theorem vM (r g n:Nat):(aS r g n)[130]? =some (.slice (some ⟨g,0,none⟩) (n+1) (n+1)):=by
 unfold aS
 rw[Array.getElem?_setIfInBounds_self_of_lt (by rw[Array.size_setIfInBounds,eF];omega)]
theorem uy (r g n:Nat):(aS r g n)[131]? =some (.int .i64 0):=by
 unfold aS
 rw[Array.getElem?_setIfInBounds_ne (by omega),Array.getElem?_setIfInBounds_ne (by omega)]
 unfold zeroCells
 rw[Array.getElem?_append_right (by simp),Array.getElem?_append_right (by simp)]
 simp
theorem fS (w:World) (n:Nat):
  aE (((w.alloc (.map #[] 0)).alloc (.cells (bo n) 173)).alloc (.cells (aS w.heap.size (w.heap.size+1) n) 158)) (w.heap.size+1+1) (w.heap.size+1) n 0 0 (.map (some w.heap.size)) (fun _=>0) (fun _=>0) (fun _=>0) (fun _=>0) (fun _=>0) (fun _=>false):=by
 have e1:w.heap.size+1=(w.alloc (.map #[] 0)).heap.size:=by simp
 have e2:w.heap.size+1+1=((w.alloc (.map #[] 0)).alloc (.cells (bo n) 173)).heap.size:=by simp
 have hb: ∀i,(((w.alloc (.map #[] 0)).alloc (.cells (bo n) 173)).alloc (.cells (aS w.heap.size (w.heap.size+1) n) 158)).cell? ⟨w.heap.size+1+1,i,none⟩=(aS w.heap.size (w.heap.size+1) n)[i]? :=by
  intro i
  rw[e2];exact aB _ _ _ _
 have hg: ∀i,(((w.alloc (.map #[] 0)).alloc (.cells (bo n) 173)).alloc (.cells (aS w.heap.size (w.heap.size+1) n) 158)).cell? ⟨w.heap.size+1,i,none⟩=(bo n)[i]? :=by
  intro i
  rw[World.cell?_alloc_lt _ _ _ (by simp)]
  have:=aB (w.alloc (.map #[] 0)) (bo n) 173 i
  rw[←e1] at this
  exact this
 have fb: ∀i,(((w.alloc (.map #[] 0)).alloc (.cells (bo n) 173)).alloc (.cells (aS w.heap.size (w.heap.size+1) n) 158)).frozen? ⟨w.heap.size+1+1,i,none⟩=false:=by
  intro i
  rw[e2];exact aF _ _ _ _
 have fg: ∀i,(((w.alloc (.map #[] 0)).alloc (.cells (bo n) 173)).alloc (.cells (aS w.heap.size (w.heap.size+1) n) 158)).frozen? ⟨w.heap.size+1,i,none⟩=false:=by
  intro i
  rw[World.frozen?_alloc_past _ _ _ (by simp)]
  have:=aF (w.alloc (.map #[] 0)) (bo n) 173 i
  rw[←e1] at this
  exact this
 refine⟨by omega,⟨n+1,by rw[hb];exact vM _ _ _⟩,by rw[hb];exact A7 _ _ _,by rw[hb];exact vu _ _ _,by rw[hb];exact uy _ _ _,fun x hx=> ?_,fun x hx=> ?_,fun x hx=> ?_,fun x hx=> ?_,fun x hx=> ?_,fun x hx=> ?_,fb,fg⟩
 ·rw[hb,qT _ _ _ _ (by omega) (by omega)];rfl
 ·rw[hb,qT _ _ _ _ (by omega) (by omega)];rfl
 ·rw[hg,iQ n _ (by omega),show x*4%4=0 by omega];rfl
 ·rw[hg,iQ n _ (by omega),show(x*4+1)%4=1 by omega];rfl
 ·rw[hg,iQ n _ (by omega),show(x*4+2)%4=2 by omega];rfl
 ·rw[hg,iQ n _ (by omega),show(x*4+3)%4=3 by omega];rfl
theorem kU (t:Nat) (ht:t<18446744073709551616) (w:World):
  Calls Tryz.prog 82 #[.int .u64 (t:Int)] w fun e w'=>e= .returned (.int .u64 ((t/64:Nat):Int))∧w'=w:=by
 have hw:IntKind.u64.wrap ((t:Int)/64)=((t/64:Nat):Int):=by rw[IntKind.wrap_u64];omega
 go_enter Tryz.func82,Tryz.ntmps82
 go_wp2
 go_ret
 exact⟨by simp,rfl⟩
section
variable {w:World} {b g n nw ct:Nat} {fm:Value} {F L A B E:Nat→Nat} {T:Nat→Bool}
theorem we (h:aE w b g n nw ct fm F L A B E T):
  Calls Tryz.prog 52 #[.pointer (some ⟨b,0,none⟩)] w fun e w'=>e= .returned (.int .u64 (nw:Int))∧w'=w:=by
 have e2:=h.tn
 clear h
 go_enter Tryz.func52,Tryz.ntmps52
 go_wp2
 go_ret
 exact⟨rfl,rfl⟩
end
structure Fr (S:Nat→Prop) (w w':World):Prop where
 os:w'.os=w.os
 tape:w'.tape=w.tape
 output:w'.output=w.output
 size:w.heap.size≤w'.heap.size
 block: ∀k,k<w.heap.size→ ¬S k→w'.heap[k]? =w.heap[k]?
section
variable {S S':Nat→Prop} {w w' w'':World}
theorem Fr.setCell (h:Fr S w w') {a:Addr} (hb:S a.block) (u:Value):Fr S w (w'.setCell a u):=
 ⟨h.os,h.tape,h.output,by simpa using h.size,fun k hk hn=>(Below.heap_setCell _ _ _ _ (fun e=>hn (by rw[e];exact hb))).trans (h.block k hk hn)⟩
theorem Fr.zj {b g:Nat} (h:aJ b g w w') (h1:S b) (h2:S g):Fr S w w':=⟨h.os,h.tape,h.output,h.size,fun k hk hn=>h.block k hk (fun e=>hn (by rw[e];exact h1)) (fun e=>hn (by rw[e];exact h2))⟩
theorem Fr.drew (h:Fr S w w'):Fr S w w'.drew:=⟨h.os,h.tape,h.output,h.size,h.block⟩
end
theorem im: ∀{l m:List Int},l.Nodup→(∀x∈l,x∈m)→l.length≤m.length
 |[],_,_,_=>by simp
 |a::l,m,hn,hs=>by
  obtain⟨h1,h2⟩:=List.nodup_cons.1 hn
  have ha:a∈m:=hs a (by simp)
  have:=im (l:=l) (m:=m.erase a) h2 (fun x hx=>(List.mem_erase_of_ne (fun e=>h1 (by rw[←e];exact hx))).2 (hs x (by simp[hx])))
  rw[List.length_erase_of_mem ha] at this
  have:=List.length_pos_of_mem ha
  simp
  omega
section
variable {w:World} {b g mb n nw ct s:Nat} {F L A B E:Nat→Nat} {T:Nat→Bool} {fr:Int→Option (Nat×Nat)}
def O3 (b g mb:Nat):Nat→Prop:=fun k=>k=b∨k=g∨k=mb
end
def pos:List Nat→Nat→Nat
 |[],_=>0
 |y::ys,v=>if y=v then 1 else if pos ys v=0 then 0 else pos ys v+1
theorem oA: ∀(R S:List Nat) (y:Nat),(R++y::S).Nodup→pos (R++y::S) y=R.length+1
 |[],S,y,_=>by simp[pos]
 |z::R,S,y,h=>by
  obtain⟨h1,h2⟩:=List.nodup_cons.1 h
  have hz:z≠y:=fun e=>h1 (by rw[e];simp)
  show(if z=y then 1 else if pos (R++y::S) y=0 then 0 else pos (R++y::S) y+1)=_
  rw[if_neg hz,oA R S y h2,if_neg (by omega)]
  simp
def hz (l:List Nat):Nat:=l.headD 0
section
variable {w:World} {b g n nw ct f l x t:Nat} {fm:Value} {F L A B E:Nat→Nat} {T:Nat→Bool} {P Q:List Nat}
end
def uh (w:World) (b g mb n nw:Nat) (S:List It):Prop:=
 ∃(ct:Nat) (F L:Nat→Nat) (fr:Int→Option (Nat×Nat)) (A B E:Nat→Nat) (T:Nat→Bool) (s:Nat),aE w b g n nw ct (.map (some mb)) F L A B E T∧fY w mb fr s∧Inv n nw ct F L fr A B E T S∧b≠mb∧g≠mb∧n≤1024
section
variable {w w':World} {b g mb n nw ct s:Nat} {F L A B E:Nat→Nat} {T:Nat→Bool} {fr:Int→Option (Nat×Nat)} {S:List It}
theorem Inv.dv (h:Inv n nw ct F L fr A B E T S):S.length≤n:=by
 have:=im (l:=S.map (fun x=>(x.i:Int))) (m:=(List.range n).map (fun (k:Nat)=>(k:Int))) (by
  have hn:=h.nd
  rw[List.Nodup,List.pairwise_map] at hn⊢
  exact hn.imp (fun {a c} hne e=>hne (by omega))) (fun x hx=>by
   obtain⟨y,hy,rfl⟩:=List.mem_map.1 hx
   exact List.mem_map.2 ⟨y.i,List.mem_range.2 (h.lt y hy),rfl⟩)
 simpa using this
theorem uh.frame {Z:Nat→Prop} (h:uh w b g mb n nw S) (hf:Fr Z w w') (h1: ∀k,O3 b g mb k→ ¬Z k):uh w' b g mb n nw S:=by
 obtain⟨ct,F,L,fr,A,B,E,T,s,hr,hm,hi,r⟩:=h
 exact⟨ct,F,L,fr,A,B,E,T,s,hr.kept (hf.block b hr.cY (h1 b (.inl rfl))) (hf.block g hr.dD (h1 g (.inr (.inl rfl)))),hm.block (hf.block mb hm.lt (h1 mb (.inr (.inr rfl)))),hi,r⟩
theorem uh.facts (h:uh w b g mb n nw S):mD S∧(S.map (·.i)).Nodup∧(∀x∈S,x.i<n)∧(∀x∈S,x.t<18446744073709551616)∧nw<18446744073709551616∧S.length≤n∧n≤1024:=by
 obtain⟨ct,F,L,fr,A,B,E,T,s,hr,hm,hi,_,_,hn⟩:=h
 exact⟨hi.srt,hi.nd,hi.lt,hi.tm,hi.hw,hi.dv,hn⟩
theorem BQ (h:uh w b g mb n nw S):
  Calls Tryz.prog 52 #[.pointer (some ⟨b,0,none⟩)] w fun e w'=>e= .returned (.int .u64 (nw:Int))∧w'=w:=by
 obtain⟨ct,F,L,fr,A,B,E,T,s,hr,hm,hi,hbm,hgm,hn⟩:=h
 exact we hr
end
theorem kJ:(Tryz.prog.info? 3).map (fun i=>(i.zero,i.size,i.bytes))=some (some (.int .i64 0),1,8):=by kernel_rfl
theorem ji {P:Program} (w:World) {ops:Array Oper} {rest:List Oper} {o:Oper} {a:Act} {Q:Exit→Act→World→Prop} (hgd:o.guard=none) (s x:Operand) (t:TypeId)
  (ho:o.op= .call {callee:= .builtin .append,args:= #[s,x],argTypes:= #[t,t]})
  (base:Nat) (e:TypeId) (i:TypeInfo) (size:Nat) (ht:P.underlying t=some (.slice e)) (hi:P.info? e=some i)
  (v:Value) (n:Nat) (xs:List Value) (hs:a.eval s=v) (hown:w.ownsRow base e size v n xs) (hx:a.eval x= .slice none 0 0)
  (h:wpList P ops Q rest (a.put o.dst v) w):wpList P ops Q (o::rest) a w:=by
 refine wpList_plain hgd fun K hK=> ?_
 have hr:=run_append_owned_none (P:=P) w base t o.type e i size ht hi v n xs hown
 unfold Oper.wp execOp
 simp only[ho,resolve,invoke,builtin,Sem.run_bind,Sem.run_pure,Result.andThen_ok,List.map_toArray,List.map_cons,List.map_nil,hs,hx,hr]
 exact hK _ _ h
theorem df {w:World} {base:Nat} {e:TypeId} {size:Nat} {v:Value} {n:Nat} {xs:List Value} (h:w.ownsRow base e size v n xs) {k:Nat} (hk:v.ownBlock=some k):base≤k∧k<w.heap.size:=by
 rcases h.2 with ⟨rfl,_⟩|⟨g',cap,cur,rfl,hb,hg,_⟩
 ·cases hk
 ·simp[Value.ownBlock] at hk
  subst hk
  exact⟨hb,(Array.getElem?_eq_some_iff.1 hg).1⟩
theorem cN {w:World} {base:Nat} {e:TypeId} {size:Nat} {v:Value} {n:Nat} {xs:List Value} (h:w.ownsRow base e size v n xs): ∃a c,v= .slice a n c:=by
 rcases h.2 with ⟨rfl,rfl⟩|⟨g',cap,cur,rfl,_⟩
 ·exact⟨_,_,rfl⟩
 ·exact⟨_,_,rfl⟩
theorem gu {w w':World} {base:Nat} {e:TypeId} {size:Nat} {v:Value} {n:Nat} {xs:List Value} (h:w.ownsRow base e size v n xs) (hk: ∀k,v.ownBlock=some k→w'.heap[k]? =w.heap[k]?):w'.ownsRow base e size v n xs:=by
 refine⟨h.1,?_⟩
 rcases h.2 with hn|⟨g,cap,cur,rfl,h0,hg,rest⟩
 ·exact .inl hn
 ·exact .inr ⟨g,cap,cur,rfl,h0,by rw[hk g rfl];exact hg,rest⟩
theorem nX {w w':World} {base:Nat} {e:TypeId} {size:Nat} {v:Value} {n:Nat} {xs:List Value} (h:w.ownsRow base e size v n xs) (hb:Below w.heap.size w w'):w'.ownsRow base e size v n xs:=
 gu h (fun k hk=>hb.block k (df h hk).2)
theorem eK (w:World) {ops:Array Oper} {rest:List Oper} {o:Oper} {a:Act} {Q:Exit→Act→World→Prop} (hgd:o.guard=none) (s x:Operand)
  (ho:o.op= .call {callee:= .builtin .append,args:= #[s,x],argTypes:= #[57,57]})
  (base base2:Nat) (v u:Value) (n m:Nat) (xs ys:List Value) (hs:a.eval s=v) (hown:w.ownsRow base 3 1 v n xs) (hx:a.eval x=u) (hu:w.ownsRow base2 3 1 u m ys) (h1: ∀u∈ys,u.oneCell'=true)
  (hnm:n+m≤100000) (hbase:base≤w.heap.size)
  (h: ∀v' w',w'.ownsRow base 3 1 v' (n+m) (xs++ys)→w.grownBy w' v.ownBlock→wpList Tryz.prog ops Q rest (a.put o.dst v') w'):wpList Tryz.prog ops Q (o::rest) a w:=by
 obtain⟨i0,hi,hz0,hz1,hz2⟩:=info_parts kJ
 rcases hu.2 with ⟨rfl,rfl⟩|⟨g,cap,cur,rfl,_⟩
 ·have hys:ys=[]:=List.length_eq_zero_iff.1 (by have:=hu.1;omega)
  subst hys
  refine ji w hgd s x 57 ho base 3 i0 1 Tryz.underlying57 hi v n xs hs hown hx ?_
  have:=h v w (by simpa using hown) ⟨rfl,rfl,rfl,Nat.le_refl _,fun _ _ _=>rfl⟩
  exact this
 ·refine wpList_append_own w hgd s x 57 ho base 3 i0 (.int .i64 0) 1 8 Tryz.underlying57 hi hz0 hz1 hz2 rfl (by decide) v n xs hs hown ⟨g,0,none⟩ m cap ys hx (by have:=hu.1;omega) (hu.cells rfl) h1 (by unfold maxLen;omega) (by omega) hbase ?_
  intro v' w' q1 q2 _
  exact h v' w' q1 q2
def iv (xs:List Nat):List Value:=xs.map (fun (x:Nat)=>Value.int .i64 ((x:Int)-1))
theorem wG (xs:List Nat): ∀u∈iv xs,u.oneCell'=true:=fun u hu=>by
 obtain⟨x,_,rfl⟩:=List.mem_map.1 hu
 rfl
theorem jQ (xs ys:List Nat):iv (xs++ys)=iv xs++iv ys:=by simp[iv]
theorem ye (w:World) (x:Value) (t:TypeId): ∀j u,[x][j]? =some u→(w.alloc (.cells #[x] t)).cell? ((⟨w.heap.size,0,none⟩:Addr).add j)=some u:=by
 intro j u h
 have hj:j<1:=by
  rcases Nat.lt_or_ge j 1 with q|q
  ·exact q
  ·rw[List.getElem?_eq_none (by simpa using q)] at h;cases h
 obtain rfl:j=0:=by omega
 simp at h
 subst h
 simp[Addr.add]
def fu (xs:List Nat) (v:Nat):Nat:=if v=0 then 0 else xs.length+1-pos xs v
section
variable {w:World} {b g n nw ct f l:Nat} {fm:Value} {F L A B E:Nat→Nat} {T:Nat→Bool} {xs:List Nat}
theorem Cr (h:aE w b g n nw ct fm F L A B E T) (hL:rV A B f l xs) (h0: ∀p∈xs,p≠0∧p≤n) (hnd:xs.Nodup) (hn:n≤1024) (hlen:xs.length≤1024):
  Calls Tryz.prog 132 #[.pointer (some ⟨b,0,none⟩),.agg #[.int .i64 (f:Int),.int .i64 (l:Int)]] w fun e w'=>(∃v,e= .returned v∧w'.ownsRow w.heap.size 3 1 v xs.length (iv xs))∧Below w.heap.size w w':=by
 obtain⟨i0,hi,hz0,hz1,hz2⟩:=info_parts kJ
 have hbb:=h.cY
 have hgg:=h.dD
 have HR:=aa h
 have HL:=aa hL
 have H0:=aa h0
 have HN:=aa hnd
 have HF:Hid (f=hz xs):=hL.f
 clear h hL h0 hnd
 go_enter Tryz.func132,Tryz.ntmps132
 go_wp2
 go_loopw [5,6] (fun v s wr=> ∃P Q,xs=P++Q∧s= .int .i64 ((hz Q:Nat):Int)∧Below w.heap.size w wr∧wr.ownsRow w.heap.size 3 1 v P.length (iv P)) (fun _ s _=>fu xs (intOf s).toNat)
 case atStart=>exact⟨[],xs,rfl,by rw[←HF.out],(Below.refl _ _).alloc (Nat.le_refl _) _,World.ownsRow_nil _ _ _ _⟩
 case round=>
  obtain⟨P,Q,hq,rfl,hbel,hown⟩:=hrel
  obtain⟨av,cv,rfl⟩:=cN hown
  have HB:=aa hbel
  have HO:=aa hown
  have hsz:=hbel.size
  have HQ:=aa hq
  clear hbel hown hq
  match Q,HQ with
  |[],HQ=>
   have hx:xs=P:=by rw[HQ.out];simp
   have HE:Hid (wr.ownsRow w.heap.size 3 1 (.slice av P.length cv) xs.length (iv xs)):=by rw[hx];exact HO.out
   clear hx
   go_wp2
   go_ret
   exact⟨⟨_,rfl,HE.out⟩,HB.out⟩
  |y::Q,HQ=>
   have hxe:xs=P++y::Q:=HQ.out
   have hy:=H0.out y (by rw[hxe];simp)
   have hnd:=HN.out
   have hl:=HL.out
   rw[hxe] at hnd hl
   have hB:B y=hz Q:=hl.Fk.2
   have HM:Hid (fu xs (hz Q)<fu xs y):=by
    show _<_
    rw[hxe]
    unfold fu
    rw[if_neg hy.1,oA _ _ _ hnd]
    split
    ·simp
    ·rename_i e
     match Q,e,hnd with
     |[],e,_=>exact absurd rfl e
     |z::Q,e,hnd=>
      have e2:P++y::z::Q=(P++[y])++z::Q:=by simp
      rw[e2] at hnd⊢
      show _-pos _ z<_
      rw[oA _ _ _ hnd]
      simp
      omega
   have HX:Hid (xs=(P++[y])++Q):=by show _=_;rw[hxe];simp
   have e1:=HR.out.eb y hy.2
   rw[hB] at e1
   obtain⟨cp,e0⟩:=HR.out.en
   have E0:=aa e0
   have E1:=aa e1
   have x0: ¬(y:Int)=0:=by have:=hy.1;omega
   have xl:y<n+1:=by have:=hy.2;omega
   have xb:y≤1024:=by have:=hy.2;omega
   have hp:P.length≤1024:=by rw[hxe] at hlen;simp at hlen;omega
   have hy1:IntKind.i64.wrap ((y:Int)-1)=(y:Int)-1:=by simp[IntKind.wrap,IntKind.bits,IntKind.signed];omega
   obtain⟨z,hz'⟩: ∃z,hz Q=z:=⟨_,rfl⟩
   rw[hz'] at E1 HM
   have HZ:=aa hz'
   have hhd:hz (y::Q)=y:=rfl
   rw[hhd]
   clear hxe hy hnd hl hB e1 e0 hz' hhd
   go_wp2_with (at_builtin;refine wpList_append_own _ rfl _ _ 57 rfl w.heap.size 3 i0 (.int .i64 0) 1 8 Tryz.underlying57 hi hz0 hz1 hz2 rfl (by decide) (.slice av P.length cv) P.length (iv P) rfl (by exact HO.out.alloc _) ⟨wr.heap.size,0,none⟩ 1 1 [.int .i64 ((y:Int)-1)] rfl rfl (ye _ _ _) (by simp[Value.oneCell']) (by unfold maxLen;omega) (by omega) (by simp;omega) ?_;intro v' w1 hown' hgrow _;have hb1:=(HB.out.alloc HB.out.size _).grown hgrow (by simp;omega) (fun k hk=>(df HO.out hk).1);have y0:=(hb1.cell (p:=⟨b,130,none⟩) hbb).trans E0.out;have y1:=(hb1.cell (p:=⟨g,y*4+1,none⟩) hgg).trans E1.out;obtain⟨av',cv',rfl⟩:=cN hown';have HO':=aa hown';have HB1:=aa hb1;clear hown' hgrow hb1)
   go_roundw
   case rel=>exact⟨P++[y],Q,HX.out,by rw[HZ.out],HB1.out,by rw[jQ,List.length_append];exact HO'.out⟩
   case measure=>simp[intOf];exact HM.out
end
theorem yl (m:Nat):(Builtin.zeroCells (Value.agg #[.int .i64 0,.int .i64 0]).cells m).toList=List.replicate (m*2) (Value.int .i64 0):=by
 unfold Builtin.zeroCells
 apply List.ext_getElem?
 intro i
 have e:(Value.agg #[.int .i64 0,.int .i64 0]).cells= #[Value.int .i64 0,.int .i64 0]:=rfl
 rw[e]
 by_cases hi:i<m*2
 ·have h2:i%2=0∨i%2=1:=by omega
  rcases h2 with h2|h2<;>simp[hi,h2,List.getElem?_replicate]
 ·rw[List.getElem?_eq_none (by simp;omega),List.getElem?_eq_none (by simp;omega)]
def jI (m:Nat) (F:Nat→Nat):Nat→Nat:=fun s=>if s<m then 0 else F s
section
variable {w:World} {b g n nw ct mb s:Nat} {fm:Value} {F L A B E:Nat→Nat} {T:Nat→Bool} {fr:Int→Option (Nat×Nat)} {S:List It}
theorem uW (h:aE w b g n nw ct fm F L A B E T) (m:Nat) (h1:0<m) (hm:m≤64): ∃W1,(∀ty,(Builtin.clear_ #[232] ty #[.slice (some ⟨b,1,none⟩) m 64]).run Tryz.prog w= .ok (.tuple #[]) W1)∧aE W1 b g n nw ct fm (jI m F) (jI m L) A B E T∧aJ b g w W1∧W1.heap.size=w.heap.size:=by
 have hlen:(List.replicate (m*2) (Value.int .i64 0)).length=m*2:=by simp
 have hsome: ∀j,j<m*2→(w.cell? ⟨b,1+j,none⟩).isSome=true:=fun j hj=>by
  by_cases e:j%2=0
  ·rw[show 1+j=1+j/2*2 by omega,h.sf (j/2) (by omega)];rfl
  ·rw[show 1+j=1+j/2*2+1 by omega,h.sl (j/2) (by omega)];rfl
 have hin: ∀j,j<m*2→(w.setCells b 1 (List.replicate (m*2) (.int .i64 0))).cell? ⟨b,1+j,none⟩=some (.int .i64 0):=fun j hj=>by
  have:=World.cell?_setCells_in b (List.replicate (m*2) (Value.int .i64 0)) 1 w (fun j hj=>hsome j (by simpa using hj)) j (by simpa using hj)
  rw[this]
  simp
 have hout: ∀o,(o<1∨1+m*2≤o)→(w.setCells b 1 (List.replicate (m*2) (.int .i64 0))).cell? ⟨b,o,none⟩=w.cell? ⟨b,o,none⟩:=fun o ho=>World.cell?_setCells_out b _ 1 w ⟨b,o,none⟩ (fun _ _=>by simpa using ho)
 have hoth: ∀o,(w.setCells b 1 (List.replicate (m*2) (.int .i64 0))).cell? ⟨g,o,none⟩=w.cell? ⟨g,o,none⟩:=fun o=>World.cell?_setCells_out b _ 1 w ⟨g,o,none⟩ (fun e _=>absurd e.symm h.bg)
 have hfz: ∀x,(w.setCells b 1 (List.replicate (m*2) (.int .i64 0))).frozen? x=w.frozen? x:=fun x=>World.frozen?_setCells b _ 1 w x
 have hsz: ∀(vs:List Value) (o:Nat) (w:World),(w.setCells b o vs).heap.size=w.heap.size:=by
  intro vs
  induction vs with
  |nil=>intro o w;rfl
  |cons v r ih=>intro o w;show((w.setCell ⟨b,o,none⟩ v).setCells b (o+1) r).heap.size=_;rw[ih];simp
 have hon: ∀(vs:List Value) (o:Nat) (w':World),aJ b g w w'→aJ b g w (w'.setCells b o vs):=by
  intro vs
  induction vs with
  |nil=>intro o w' q;exact q
  |cons v r ih=>intro o w' q;exact ih (o+1) _ (q.set _ _ (Or.inl rfl))
 refine⟨w.setCells b 1 (List.replicate (m*2) (.int .i64 0)),fun ty=> ?_,?_,hon _ _ _ (aJ.refl b g w),hsz _ _ _⟩
 ·have hst:=run_storeCells_cells (P:=Tryz.prog) b 1 (List.replicate (m*2) (.int .i64 0)) 0 w (fun j hj=>hsome j (by simpa using hj)) (fun j _=>h.fb _) (fun v hv=>by rw[List.eq_of_mem_replicate hv];rfl)
  have hz: ∀w,(zeroValue 155).run Tryz.prog w= .ok (.agg #[.int .i64 0,.int .i64 0]) w:=fun w=>by kernel_rfl
  have hc:=yl m
  have hst':(storeCells ⟨b,1,none⟩ (List.replicate (m*2) (.int .i64 0))).run Tryz.prog w= .ok () (w.setCells b 1 (List.replicate (m*2) (.int .i64 0))):=hst
  clear hst hin hout hoth hfz hsome hlen hsz hon
  generalize w.setCells b 1 (List.replicate (m*2) (.int .i64 0))=W1 at*
  generalize List.replicate (m*2) (Value.int .i64 0)=R at*
  obtain⟨m,rfl⟩: ∃k,m=k+1:=⟨m-1,by omega⟩
  simp[Builtin.clear_,run_underlying Tryz.underlying232,hz,hc,hst']
 ·refine⟨h.bg,?_,?_,?_,?_,fun x hx=> ?_,fun x hx=> ?_,fun x hx=> ?_,fun x hx=> ?_,fun x hx=> ?_,fun x hx=> ?_,fun o=> ?_,fun o=> ?_⟩
  ·obtain⟨cp,q⟩:=h.en
   exact⟨cp,by rw[hout 130 (by omega)];exact q⟩
  ·rw[hout 0 (by omega)];exact h.tn
  ·rw[hout 129 (by omega)];exact h.tm
  ·rw[hout 131 (by omega)];exact h.tc
  ·unfold jI
   by_cases e:x<m
   ·rw[if_pos e,hin (x*2) (by omega)];rfl
   ·rw[if_neg e,hout (1+x*2) (by omega)];exact h.sf x hx
  ·unfold jI
   by_cases e:x<m
   ·rw[if_pos e,show 1+x*2+1=1+(x*2+1) by omega,hin (x*2+1) (by omega)];rfl
   ·rw[if_neg e,hout (1+x*2+1) (by omega)];exact h.sl x hx
  ·rw[hoth];exact h.ea x hx
  ·rw[hoth];exact h.eb x hx
  ·rw[hoth];exact h.ee x hx
  ·rw[hoth];exact h.et x hx
  ·rw[hfz];exact h.fb o
  ·rw[hfz];exact h.fg o
theorem yL (h:mD S) (lo m:Nat):(eL nw S lo m).length≤S.length:=by
 rw[ub h]
 exact List.length_filter_le _ _
theorem Cc (xs:List Nat):(iv xs).length=xs.length:=by simp[iv]
theorem wo (h:aE w b g n nw ct fm F L A B E T) (hi:Inv n nw ct F L fr A B E T S) (hn:n≤1024) (to m:Nat) (ht:to<18446744073709551616) (hm:m=if to/64=nw/64 then to%64+1 else 64):
  Calls Tryz.prog 81 #[.pointer (some ⟨b,0,none⟩),.int .u64 (to:Int)] w fun e w'=>(∃v,e= .returned v∧w'.ownsRow w.heap.size 3 1 v (eL nw S (nw/64*64) m).length (iv (ai (eL nw S (nw/64*64) m))))∧aE w' b g n nw ct fm (jI m F) (jI m L) A B E T∧aJ b g w w':=by
 have e0:=h.tn
 have hbb:=h.cY
 have hgl:=h.dD
 have hm64:m≤64:=by rw[hm];split<;>omega
 have hm1:0<m:=by rw[hm];split<;>omega
 have HT1:=aa (kU to ht)
 have HT2:=aa (kU nw hi.hw)
 have HB:Hid (∀w1,Below w.heap.size w w1→aE w1 b g n nw ct fm F L A B E T):=fun w1 hb=>h.below hb
 have HLen:=aa hi.dv
 have HU:=aa (fun j=>yL (nw:=nw) hi.srt (nw/64*64) j)
 have HId:Hid (∀j,j<64→ ∀W,aE W b g n nw ct fm F L A B E T→Calls Tryz.prog 132 #[.pointer (some ⟨b,0,none⟩),.agg #[.int .i64 (F j:Int),.int .i64 (L j:Int)]] W fun e w'=>(∃v,e= .returned v∧w'.ownsRow W.heap.size 3 1 v (me nw S (nw/64*64+j)).length (iv (ai (me nw S (nw/64*64+j)))))∧Below W.heap.size W w'):=fun j hj W hW=>by
  have hl:=hi.slot j hj
  have hlt:(me nw S (nw/64*64+j)).length≤S.length:=List.length_filter_le _ _
  have:=hi.dv
  have q:=Cr hW hl (fun p hp=>by
   obtain⟨y,hy,rfl⟩:=eH.1 hp
   have:=hi.lt y (ta.1 hy).1
   omega) (xP (wk hi.nd)) hn (by rw[dI];omega)
  rwa [dI] at q
 have HEnd:Hid (∀W v,Below w.heap.size w W→W.ownsRow w.heap.size 3 1 v (eL nw S (nw/64*64) m).length (iv (ai (eL nw S (nw/64*64) m)))→ ∃W1,(∀ty,(Builtin.clear_ #[232] ty #[.slice (some ⟨b,1,none⟩) m 64]).run Tryz.prog W= .ok (.tuple #[]) W1)∧Hid (W1.ownsRow w.heap.size 3 1 v (eL nw S (nw/64*64) m).length (iv (ai (eL nw S (nw/64*64) m)))∧aE W1 b g n nw ct fm (jI m F) (jI m L) A B E T∧aJ b g w W1)):=fun W v hb ho=>by
  obtain⟨W1,hcl,hr1,ho1,_⟩:=uW (h.below hb) m hm1 hm64
  refine⟨W1,hcl,gu ho (fun k hk=>ho1.block k (df ho hk).2 (by have:=(df ho hk).1;omega) (by have:=(df ho hk).1;omega)),hr1,(aJ.fA hb).trans ho1⟩
 by_cases htn:to/64=nw/64
 ·rw[if_pos htn] at hm
  have hq:((nw/64:Nat):Int)=((to/64:Nat):Int):=by omega
  rw[hq] at HT2
  obtain⟨r,hr⟩: ∃r:Nat,to%64=r:=⟨_,rfl⟩
  rw[hr] at hm
  have hr64:r<64:=by omega
  have hmr:(m:Int)=(r:Int)+1:=by omega
  have hto:(to:Int)%64=(r:Int):=by omega
  have hto2:IntKind.u64.wrap ((to:Int)%64)=(r:Int):=by rw[hto];simp[IntKind.wrap,IntKind.bits,IntKind.signed];omega
  have hto3:IntKind.u64.wrap ((r:Int)+1)=(m:Int):=by rw[hmr];simp[IntKind.wrap,IntKind.bits,IntKind.signed];omega
  have hm0:(m:Int)≤64:=by omega
  clear h hi htn hq hm hmr
  generalize ((to/64:Nat):Int)=q1 at*
  go_enter Tryz.func81,Tryz.ntmps81
  go_wp2
  go_region_held3 (fun w'=>w'.cell? ⟨b,0,none⟩=some (.int .u64 (nw:Int))) (go_keep)
   (first
    |(go_at_call 82;first
      |(refine(HT1.out _).mono ?_;rintro e w1 ⟨rfl,hw⟩;subst hw)
      |(refine(HT2.out _).mono ?_;rintro e w1 ⟨rfl,hw⟩;subst hw)))
  go_wp2
  clear hto hto2 hto3
  go_loopw [6,30] (fun o i wr=> ∃j:Nat,j≤m∧i= .int .i64 j∧Below w.heap.size w wr∧wr.ownsRow w.heap.size 3 1 o (eL nw S (nw/64*64) j).length (iv (ai (eL nw S (nw/64*64) j)))) (fun _ i _=>m-(intOf i).toNat)
  case atStart=>exact⟨0,by omega,rfl,(Below.refl _ _).drew,World.ownsRow_nil _ _ _ _⟩
  case round=>
   obtain⟨j,hj,rfl,hbel,hown⟩:=hrel
   obtain⟨av,cv,rfl⟩:=cN hown
   have HBE:=aa hbel
   have HO:=aa hown
   have hsz:=hbel.size
   by_cases hj5:j<m
   ·have hr:=HB.out _ hbel
    have e1:=hr.sf j (by omega)
    have e2:=hr.sl j (by omega)
    have hbb2:=hr.cY
    have y1: ¬b=wr.heap.size:=by omega
    have HR:=aa hr
    have HI:=aa (HId.out j (by omega))
    have HL1:=HLen.out
    have HL2:=HU.out j
    have HL3:(me nw S (nw/64*64+j)).length≤S.length:=List.length_filter_le _ _
    have HEQ:Hid (eL nw S (nw/64*64) (j+1)=eL nw S (nw/64*64) j++me nw S (nw/64*64+j)):=rfl
    generalize eL nw S (nw/64*64) j=U at*
    generalize me nw S (nw/64*64+j)=G at*
    have hjb:(j:Int)<(m:Int):=by omega
    generalize F j=fj at*
    generalize L j=lj at*
    clear hr hbel hown HId HU HEnd HB HT1 HT2
    go_wp2_with (first
     |(go_at_call 132;refine(HI.out _ (by exact HR.out.alloc _)).mono ?_;rintro e w5 ⟨⟨v5,rfl,ho5⟩,hb5⟩;obtain⟨a5,c5,rfl⟩:=cN ho5;have HO5:=aa ho5;have HV5:=aa (nX (HO.out.alloc _) hb5);have HB5:=aa ((HBE.out.alloc HBE.out.size _).trans (hb5.mono (by simp;omega)));clear ho5 hb5)
     |(at_builtin;refine eK _ rfl _ _ rfl w.heap.size _ _ _ _ _ _ _ rfl HV5.out rfl HO5.out (wG _) (by omega) HB5.out.size ?_;intro v' w6 hown' hgrow;obtain⟨a6,c6,rfl⟩:=cN hown';have HO6:=aa hown';have HB6:=aa (HB5.out.grown hgrow HB5.out.size (fun k hk=>(df HO.out hk).1));clear hown' hgrow))
    go_roundw
    case rel=>exact⟨j+1,by omega,by go_num,HB6.out,by rw[HEQ.out,iZ,jQ,List.length_append];exact HO6.out⟩
    case measure=>simp[intOf];omega
   ·obtain rfl:m=j:=by omega
    obtain⟨W1,hcl,HX⟩:=HEnd.out wr _ hbel hown
    clear hbel hown HB HId HU HO HEnd HT1 HT2
    go_wp2
    go_ret
    exact⟨⟨_,rfl,HX.out.1⟩,HX.out.2⟩
 ·rw[if_neg htn] at hm
  subst hm
  have hne: ¬((to/64:Nat):Int)=((nw/64:Nat):Int):=by omega
  have hneb:(((to/64:Nat):Int)==((nw/64:Nat):Int))=false:=by simp;omega
  generalize ((to/64:Nat):Int)=q1 at*
  generalize ((nw/64:Nat):Int)=q2 at*
  clear h hi htn
  go_enter Tryz.func81,Tryz.ntmps81
  go_wp2
  go_region_held3 (fun w'=>w'.cell? ⟨b,0,none⟩=some (.int .u64 (nw:Int))) (go_keep)
   (first
    |(go_at_call 82;first
      |(refine(HT1.out _).mono ?_;rintro e w1 ⟨rfl,hw⟩;subst hw)
      |(refine(HT2.out _).mono ?_;rintro e w1 ⟨rfl,hw⟩;subst hw)))
  go_wp2
  go_loopw [6,30] (fun o i wr=> ∃j:Nat,j≤64∧i= .int .i64 j∧Below w.heap.size w wr∧wr.ownsRow w.heap.size 3 1 o (eL nw S (nw/64*64) j).length (iv (ai (eL nw S (nw/64*64) j)))) (fun _ i _=>64-(intOf i).toNat)
  case atStart=>exact⟨0,by omega,rfl,(Below.refl _ _).drew,World.ownsRow_nil _ _ _ _⟩
  case round=>
   obtain⟨j,hj,rfl,hbel,hown⟩:=hrel
   obtain⟨av,cv,rfl⟩:=cN hown
   have HBE:=aa hbel
   have HO:=aa hown
   have hsz:=hbel.size
   by_cases hj5:j<64
   ·have hr:=HB.out _ hbel
    have e1:=hr.sf j (by omega)
    have e2:=hr.sl j (by omega)
    have hbb2:=hr.cY
    have y1: ¬b=wr.heap.size:=by omega
    have HR:=aa hr
    have HI:=aa (HId.out j (by omega))
    have HL1:=HLen.out
    have HL2:=HU.out j
    have HL3:(me nw S (nw/64*64+j)).length≤S.length:=List.length_filter_le _ _
    have HEQ:Hid (eL nw S (nw/64*64) (j+1)=eL nw S (nw/64*64) j++me nw S (nw/64*64+j)):=rfl
    generalize eL nw S (nw/64*64) j=U at*
    generalize me nw S (nw/64*64+j)=G at*
    have hjb:(j:Int)<64:=by omega
    generalize F j=fj at*
    generalize L j=lj at*
    clear hr hbel hown HId HU HEnd HB HT1 HT2
    go_wp2_with (first
     |(go_at_call 132;refine(HI.out _ (by exact HR.out.alloc _)).mono ?_;rintro e w5 ⟨⟨v5,rfl,ho5⟩,hb5⟩;obtain⟨a5,c5,rfl⟩:=cN ho5;have HO5:=aa ho5;have HV5:=aa (nX (HO.out.alloc _) hb5);have HB5:=aa ((HBE.out.alloc HBE.out.size _).trans (hb5.mono (by simp;omega)));clear ho5 hb5)
     |(at_builtin;refine eK _ rfl _ _ rfl w.heap.size _ _ _ _ _ _ _ rfl HV5.out rfl HO5.out (wG _) (by omega) HB5.out.size ?_;intro v' w6 hown' hgrow;obtain⟨a6,c6,rfl⟩:=cN hown';have HO6:=aa hown';have HB6:=aa (HB5.out.grown hgrow HB5.out.size (fun k hk=>(df HO.out hk).1));clear hown' hgrow))
    go_roundw
    case rel=>exact⟨j+1,by omega,by go_num,HB6.out,by rw[HEQ.out,iZ,jQ,List.length_append];exact HO6.out⟩
    case measure=>simp[intOf];omega
   ·obtain rfl:j=64:=by omega
    obtain⟨W1,hcl,HX⟩:=HEnd.out wr _ hbel hown
    clear hbel hown HB HId HU HO HEnd HT1 HT2
    go_wp2
    go_ret
    exact⟨⟨_,rfl,HX.out.1⟩,HX.out.2⟩
end
def ks {α:Type} (f:Nat→α) (z:α) (ps:List Nat):Nat→α:=fun p=>if p∈ps then z else f p
theorem kT {α:Type} (f:Nat→α) (z:α):ks f z []=f:=by funext p;simp[ks]
theorem iP {α:Type} (f:Nat→α) (z:α) (ps:List Nat) (q:Nat):ks f z (ps++[q])=aw (ks f z ps) q z:=by
 funext p
 show(if p∈ps++[q] then z else f p)=if p=q then z else if p∈ps then z else f p
 by_cases e:p=q
 ·rw[if_pos (by simp[e]),if_pos e]
 ·rw[if_neg (c:=p=q) e]
  by_cases h:p∈ps
  ·rw[if_pos (List.mem_append_left _ h),if_pos h]
  ·rw[if_neg (fun x=>by rcases List.mem_append.1 x with x|x;exact h x;simp at x;exact e x),if_neg h]
section
variable {w:World} {b g mb n nw ct s:Nat} {F L A B E F' L':Nat→Nat} {T:Nat→Bool} {fr:Int→Option (Nat×Nat)} {S:List It}
theorem wu (hs:mD S) {to:Nat} (hle:nw≤to) (h:to/64=nw/64):eL nw S (nw/64*64) (to%64+1)=due to S:=by
 rw[ub hs]
 unfold due
 congr 1
 funext x
 rw[Bool.eq_iff_iff]
 simp only[decide_eq_true_eq,Bool.and_eq_true]
 have hk:ky nw x=x.t∨ky nw x=nw:=by unfold ky;omega
 have hk1:x.t≤ky nw x∧nw≤ky nw x:=by unfold ky;omega
 constructor
 ·rintro⟨q1,q2⟩;omega
 ·intro q;exact⟨by omega,by omega⟩
structure Bt (n nw to:Nat) (F L:Nat→Nat) (fr:Int→Option (Nat×Nat)) (F' L':Nat→Nat) (fr':Int→Option (Nat×Nat)):Prop where
 hs: ∀s,s<64→if to/64*64+s≤to then F' s=0∧L' s=0 else F' s=(kA nw F L fr (to/64*64+s)).1∧L' s=(kA nw F L fr (to/64*64+s)).2
 hf: ∀k:Nat,to/64<k/64→fr' (k:Int)=fr (k:Int)
 ho: ∀i:Int,(fr' i).isSome=true→ ∃k:Nat,i=(k:Int)∧to/64<k/64
theorem rX (hi:Inv n nw ct F L fr A B E T S) {to:Nat} (h:to/64=nw/64):Bt n nw to F L fr (jI (to%64+1) F) (jI (to%64+1) L) fr:=by
 refine⟨fun s hs=> ?_,fun k hk=>rfl,fun i hi'=> ?_⟩
 ·unfold jI kA
  by_cases e:to/64*64+s≤to
  ·have h1:s<to%64+1:=by omega
   rw[if_pos e,if_pos h1,if_pos h1]
   exact⟨rfl,rfl⟩
  ·have h1: ¬s<to%64+1:=by omega
   have h2:(to/64*64+s)/64=nw/64:=by omega
   rw[if_neg e,if_neg h1,if_neg h1,if_pos h2,show(to/64*64+s)%64=s by omega]
   exact⟨rfl,rfl⟩
 ·obtain⟨k,e,hk⟩:=hi.out i hi'
  exact⟨k,e,by omega⟩
theorem Inv.advance (hi:Inv n nw ct F L fr A B E T S) {fr':Int→Option (Nat×Nat)} {to:Nat} (hto:nw≤to) (ht:to<18446744073709551616) (h:Bt n nw to F L fr F' L' fr'):
  Inv n to (late to S).length F' L' fr' (ks A 0 (ai (due to S))) (ks B 0 (ai (due to S))) (ks E 0 (ai (due to S))) (ks T false (ai (due to S))) (late to S):=by
 have hno: ∀y∈S,to<y.t→y.i+1 ∉ ai (due to S):=fun y hy hy2 q=>by
  obtain⟨z,hz,e⟩:=eH.1 q
  obtain⟨h1,h2⟩:=oG.1 hz
  have:=DY hi.nd h1 hy (by omega)
  rw[this] at h2
  omega
 refine hi.Fl to hto ht h.hs h.hf h.ho (fun y hy hy2=> ?_) (fun p hp hq=> ?_)
 ·have:=hno y hy hy2
  unfold ks
  rw[if_neg this,if_neg this,if_neg this,if_neg this]
  exact⟨rfl,rfl,rfl,rfl⟩
 ·unfold ks
  by_cases e:p∈ai (due to S)
  ·rw[if_pos e,if_pos e];exact⟨rfl,rfl⟩
  ·rw[if_neg e,if_neg e]
   refine hi.zer p hp (fun x hx e'=> ?_)
   by_cases hx2:x.t≤to
   ·exact e (eH.2 ⟨x,oG.2 ⟨hx,hx2⟩,e'⟩)
   ·exact hq x hx (by omega) e'
end
section
variable {w:World} {b g mb n nw:Nat} {S:List It}
theorem qn {w:World} {base N:Nat} {av:Option Addr} {cv:Nat} {xs:List Nat} (h:w.ownsRow base 3 1 (.slice av N cv) N (iv xs)) (j:Nat) (hj:j<N): ∃r,av=some ⟨r,0,none⟩∧base≤r∧r<w.heap.size∧w.cell? ⟨r,j,none⟩=some (.int .i64 ((xs.getD j 0:Nat)-1:Int)):=by
 have hlen:xs.length=N:=by have:=h.1;rw[Cc] at this;omega
 rcases h.2 with ⟨e,h0⟩|⟨r,cap,cur,e,hb,hg,hn,hc,hs,ht⟩
 ·omega
 ·cases e
  refine⟨r,rfl,hb,(Array.getElem?_eq_some_iff.1 hg).1,?_⟩
  have this:(cur.toList.take (N*1))[j]? =(iv xs)[j]? :=by rw[ht]
  rw[List.getElem?_take_of_lt (by omega),Array.getElem?_toList] at this
  unfold World.cell?
  simp only[hg]
  simp
  rw[this]
  unfold iv
  rw[List.getElem?_map,List.getElem?_eq_getElem (by omega)]
  simp[List.getElem?_eq_getElem (show j<xs.length by omega)]
theorem ou (h:uh w b g mb n nw S) (to0:Nat) (ht0:to0<18446744073709551616) (htn:max to0 nw/64=nw/64):
  Calls Tryz.prog 42 #[.pointer (some ⟨b,0,none⟩),.int .u64 (to0:Int)] w fun e w'=>(∃v,e= .returned v∧w'.ownsRow w.heap.size 3 1 v (due (max to0 nw) S).length (iv (ai (due (max to0 nw) S))))∧uh w' b g mb n (max to0 nw) (late (max to0 nw) S)∧Fr (O3 b g mb) w w':=by
 obtain⟨ct,F,L,fr,A,B,E,T,s,hr,hm,hi,hbm,hgm,hn⟩:=h
 obtain⟨to,hto⟩: ∃to,max to0 nw=to:=⟨_,rfl⟩
 rw[hto] at htn⊢
 have hle:nw≤to:=by omega
 have ht:to<18446744073709551616:=by have:=hi.hw;omega
 have hmax:max (to0:Int) (nw:Int)=(to:Int):=by omega
 have e0:=hr.tn
 have hbb:=hr.cY
 have hgg:=hr.dD
 have hmm:=hm.lt
 have hdl:(due to S).length≤1024:=by
  have h1:(due to S).length≤S.length:=List.length_filter_le _ _
  have h2:=hi.dv
  omega
 have hdn: ∀p∈ai (due to S),p≤n:=fun p hp=>by
  obtain⟨y,hy,rfl⟩:=eH.1 hp
  have:=hi.lt y (oG.1 hy).1
  omega
 have hcl:ct=(due to S).length+(late to S).length:=by rw[hi.hc,←List.length_append,xe hi.srt]
 have hmx:(if to0<nw then(nw:Int) else(to0:Int))=(to:Int):=by split<;>omega
 have HT1:=aa (kU to ht)
 have HT2:=aa (kU nw hi.hw)
 have HD0:Hid (∀p∈ai (due to S),p≠0):=uE
 have HLN:Hid (ct≤1024):=by show ct≤1024;rw[hi.hc];have:=hi.dv;omega
 have HDN:=aa hdn
 have HCL:=aa hcl
 clear hdn hcl hmax
 have hdu:=wu hi.srt hle htn
 have hsw:=wo hr hi hn to (to%64+1) ht (by rw[if_pos htn])
 rw[hdu] at hsw
 have HSW:=aa hsw
 have hadv:=hi.advance hle ht (rX hi htn)
 obtain⟨F',hF'⟩: ∃F',jI (to%64+1) F=F':=⟨_,rfl⟩
 obtain⟨L',hL'⟩: ∃L',jI (to%64+1) L=L':=⟨_,rfl⟩
 obtain⟨fr',hfr'⟩: ∃fr',fr=fr':=⟨_,rfl⟩
 rw[hF',hL'] at HSW hadv
 have HADV:Hid (Inv n to (late to S).length F' L' fr' (ks A 0 (ai (due to S))) (ks B 0 (ai (due to S))) (ks E 0 (ai (due to S))) (ks T false (ai (due to S))) (late to S)):=by rw[←hfr'];exact hadv
 have HM:Hid (fY w mb fr' s):=by rw[←hfr'];exact hm
 have hq:((nw/64:Nat):Int)=((to/64:Nat):Int):=by omega
 rw[hq] at HT2
 clear hr hm hi hdu hsw hadv hq htn hto hF' hL' hfr'
 generalize ((to/64:Nat):Int)=q1 at*
 go_enter Tryz.func42,Tryz.ntmps42
 go_upto_region 4 with fail
 clear hmx
 go_wp2_with (first
  |(go_at_call 81;refine(HSW.out).mono ?_;rintro e w1 ⟨⟨v1,rfl,ho1⟩,hr1,hon1⟩;obtain⟨av,cv,rfl⟩:=cN ho1;have e1:=hr1.tn;have HOz:=aa ho1;have HRz:=aa hr1;have HMz:=aa (Exists.intro s (HM.out.block (hon1.block mb hmm (fun e=>hbm e.symm) (fun e=>hgm e.symm))));have HFz:=aa (Fr.zj (S:=O3 b g mb) hon1 (.inl rfl) (.inr (.inl rfl)));clear ho1 hr1 hon1))
 go_region_held3 (fun w'=>w'.cell? ⟨b,0,none⟩=some (.int .u64 (nw:Int))) (go_keep)
  (first
   |(go_at_call 82;first
     |(refine(HT1.out _).mono ?_;rintro e wx ⟨rfl,hw⟩;subst hw)
     |(refine(HT2.out _).mono ?_;rintro e wx ⟨rfl,hw⟩;subst hw)))
 go_wp2
 replace HOz:Hid (w1.drew.ownsRow w.heap.size 3 1 (.slice av (due to S).length cv) (due to S).length (iv (ai (due to S)))):=gu HOz.out (fun _ _=>rfl)
 replace HRz:=aa HRz.out.drew
 replace HMz:Hid (∃s',fY w1.drew mb fr' s'):=by obtain⟨s',q⟩:=HMz.out;exact⟨s',q.block rfl⟩
 replace HFz:=aa HFz.out.drew
 clear e1 e0 HSW HT1 HT2 HM
 obtain⟨ps,hps⟩: ∃ps,ai (due to S)=ps:=⟨_,rfl⟩
 have hpl:ps.length=(due to S).length:=by rw[←hps,dI]
 obtain⟨N,hN⟩: ∃N,(due to S).length=N:=⟨_,rfl⟩
 rw[hps] at HOz HADV HDN HD0
 have HPS:=aa hps
 rw[hN] at HOz HCL hdl hpl⊢
 have HPL:=aa hpl
 have HNN:=aa hN
 clear hpl hps hN
 obtain⟨c',hc'⟩: ∃c',(late to S).length=c':=⟨_,rfl⟩
 rw[hc'] at HADV HCL
 clear hc'
 go_loopw [34] (fun iv_ wr=> ∃j:Nat,j≤N∧iv_= .int .i64 (j:Int)∧aE wr b g n nw ct (.map (some mb)) F' L' (ks A 0 (ps.take j)) (ks B 0 (ps.take j)) (ks E 0 (ps.take j)) (ks T false (ps.take j))∧(∃s',fY wr mb fr' s')∧Fr (O3 b g mb) w wr∧wr.ownsRow w.heap.size 3 1 (.slice av N cv) N (iv ps)) (fun i _=>N-(intOf i).toNat)
 case atStart=>exact⟨0,by omega,rfl,by rw[List.take_zero,kT,kT,kT,kT];exact HRz.out,HMz.out,HFz.out,HOz.out⟩
 case round=>
  obtain⟨j,hj,rfl,hrep,⟨s2,hm2⟩,hfr,hown⟩:=hrel
  clear HRz HMz HFz HOz
  by_cases hjN:j<N
  ·obtain⟨r,rfl,hrb,hrl,hcell⟩:=qn hown j hjN
   have hjp:j<ps.length:=by have:=HPL.out;omega
   have hpj:ps.getD j 0=ps[j]:=by simp[List.getElem?_eq_getElem hjp]
   have hmem:ps[j]∈ps:=List.getElem_mem _
   have hpn:=HDN.out _ hmem
   obtain⟨q,hq⟩: ∃q,ps[j]=q+1:=⟨ps[j]-1,by have:=HD0.out _ hmem;omega⟩
   rw[hpj,hq] at hcell
   rw[hq] at hpn
   have hcell':wr.cell? ⟨r,j,none⟩=some (.int .i64 (q:Int)):=by
    rw[hcell]
    congr 2
    omega
   have htk:ps.take (j+1)=ps.take j++[q+1]:=by rw[List.take_succ_eq_append_getElem hjp,hq]
   have hnn:=HNN.out
   obtain⟨cp,en⟩:=hrep.en
   have n0:=hrep.ea (q+1) hpn;have n1:=hrep.eb (q+1) hpn;have n2:=hrep.ee (q+1) hpn;have n3:=hrep.et (q+1) hpn
   have fg:=hrep.fg
   have hjN':(j:Int)<(N:Int):=by omega
   have HREP:Hid (aE ((((wr.setCell ⟨g,(q+1)*4,none⟩ (.int .i64 0)).setCell ⟨g,(q+1)*4+1,none⟩ (.int .i64 0)).setCell ⟨g,(q+1)*4+2,none⟩ (.int .u64 0)).setCell ⟨g,(q+1)*4+3,none⟩ (.bool false)) b g n nw ct (.map (some mb)) F' L' (ks A 0 (ps.take (j+1))) (ks B 0 (ps.take (j+1))) (ks E 0 (ps.take (j+1))) (ks T false (ps.take (j+1)))):=by
    rw[htk,iP,iP,iP,iP]
    exact(((hrep.fi (q+1) hpn 0).eM (q+1) hpn 0).EG (q+1) hpn 0).mw (q+1) hpn false
   have hK4: ∀k,k≠g→((((wr.setCell ⟨g,(q+1)*4,none⟩ (.int .i64 0)).setCell ⟨g,(q+1)*4+1,none⟩ (.int .i64 0)).setCell ⟨g,(q+1)*4+2,none⟩ (.int .u64 0)).setCell ⟨g,(q+1)*4+3,none⟩ (.bool false)).heap[k]? =wr.heap[k]? :=fun k hk=>by rw[Below.heap_setCell _ _ _ _ hk,Below.heap_setCell _ _ _ _ hk,Below.heap_setCell _ _ _ _ hk,Below.heap_setCell _ _ _ _ hk]
   have HMS:=aa (hm2.block (hK4 mb (fun e=>hgm e.symm)))
   have HFS:=aa ((((hfr.setCell (a:=⟨g,(q+1)*4,none⟩) (.inr (.inl rfl)) (.int .i64 0)).setCell (a:=⟨g,(q+1)*4+1,none⟩) (.inr (.inl rfl)) (.int .i64 0)).setCell (a:=⟨g,(q+1)*4+2,none⟩) (.inr (.inl rfl)) (.int .u64 0)).setCell (a:=⟨g,(q+1)*4+3,none⟩) (.inr (.inl rfl)) (.bool false))
   have HOS:=aa (gu hown (fun k hk=>hK4 k (by have:=(df hown hk).1;omega)))
   have ql:q+1<n+1:=by omega
   have qb:q≤1024:=by omega
   clear hrep hm2 hfr hown hcell hjp hpj hmem hpn hq htk hK4 HCL HADV HPL HNN HDN HD0
   go_wp2
   go_roundw
   case rel=>exact⟨j+1,by omega,by go_num,HREP.out,⟨_,HMS.out⟩,HFS.out,HOS.out⟩
   case measure=>simp[intOf];omega
  ·obtain rfl:j=N:=by omega
   have hjN': ¬(j:Int)<(j:Int):=by omega
   have hct:=HCL.out
   have etc:=hrep.tc
   have etn:=hrep.tn
   have fb:=hrep.fb
   have hps:ps.take j=ps:=List.take_of_length_le (by have:=HPL.out;omega)
   rw[hps] at hrep
   have hcb:ct≤1024+1024:=by have:=HLN.out;omega
   have hwc:IntKind.i64.wrap ((ct:Int)-(j:Int))=(c':Int):=by rw[show((ct:Int)-(j:Int))=(c':Int) by omega];simp[IntKind.wrap,IntKind.bits,IntKind.signed];omega
   have hwc2:(ct:Int)-(j:Int)=(c':Int):=by omega
   have HREP:Hid (aE ((wr.setCell ⟨b,131,none⟩ (.int .i64 (c':Int))).setCell ⟨b,0,none⟩ (.int .u64 (to:Int))) b g n to c' (.map (some mb)) F' L' (ks A 0 ps) (ks B 0 ps) (ks E 0 ps) (ks T false ps)):=(hrep.vV c').Ep to
   have hK4: ∀k,k≠b→((wr.setCell ⟨b,131,none⟩ (.int .i64 (c':Int))).setCell ⟨b,0,none⟩ (.int .u64 (to:Int))).heap[k]? =wr.heap[k]? :=fun k hk=>by rw[Below.heap_setCell _ _ _ _ hk,Below.heap_setCell _ _ _ _ hk]
   have HMS:=aa (hm2.block (hK4 mb (fun e=>hbm e.symm)))
   have HFS:=aa ((hfr.setCell (a:=⟨b,131,none⟩) (.inl rfl) (.int .i64 (c':Int))).setCell (a:=⟨b,0,none⟩) (.inl rfl) (.int .u64 (to:Int)))
   have HOS:=aa (gu hown (fun k hk=>hK4 k (by have:=(df hown hk).1;omega)))
   clear hrep hm2 hfr hown hps hK4 HCL HPL HDN HD0 hct
   go_wp2
   go_ret
   exact⟨⟨_,rfl,by rw[HNN.out,HPS.out];exact HOS.out⟩,⟨c',F',L',fr',_,_,_,_,s2,HREP.out,HMS.out,HADV.out,hbm,hgm,hn⟩,HFS.out⟩
end
end Go.Proofs.YtjlbmmiomfpgiaaGreatDoor.Wh
namespace Go.Proofs.YtjlbmmiomfpgiaaGreatDoor.Wh
open Go.RowKit Go.Lib
attribute [local go_sem ↓] Go.wp_at_zero Go.wp_at_succ
theorem zn (n:Nat) (w:World) (h1:1≤n) (h2:n≤1024):
  Calls Tryz.prog 35 #[.int .i64 n] w fun e w'=> ∃b g mb,e= .returned (.pointer (some ⟨b,0,none⟩))∧(∀k,O3 b g mb k→w.heap.size≤k∧k<w'.heap.size)∧uh w' b g mb n 0 []∧Below w.heap.size w w':=by
 obtain⟨i0,hi,hz0,hz1,hz2⟩:=info_parts vD
 have hmk: ∀w,(Instr.makeSlice 153 (.int .i64 ((n:Int)+1)) (.int .i64 ((n:Int)+1))).run Tryz.prog w= .ok (.slice (some ⟨w.heap.size,0,none⟩) (n+1) (n+1)) (w.alloc (.cells (bo n) 173)):=by
  intro w
  have:=run_make w 153 173 i0 gX Tryz.underlying153 hi hz0 .i64 .i64 ((n:Int)+1) ((n:Int)+1) (by omega) (by omega) (by rw[hz2];omega) (by omega)
  rw[hz1,show((n:Int)+1).toNat=n+1 by omega] at this
  exact this
 have HX:Hid (uh (((w.alloc (.map #[] 0)).alloc (.cells (bo n) 173)).alloc (.cells (aS w.heap.size (w.heap.size+1) n) 158)) (w.heap.size+1+1) (w.heap.size+1) w.heap.size n 0 []):=by
  refine⟨0,_,_,fun _=>none,_,_,_,_,0,fS w n,?_,?_,by omega,by omega,h2⟩
  ·refine(fY.made w).block ?_
   rw[Below.heap_alloc _ _ _ (by simp;omega),Below.heap_alloc _ _ _ (by simp)]
  ·refine⟨List.Pairwise.nil,List.nodup_nil,by simp,by simp,by omega,rfl,fun s hs=>⟨rfl,rfl,trivial⟩,fun k hk=> .inl ⟨rfl,rfl⟩,fun i hi=>(by cases hi),(by simp),fun p hp _=>⟨rfl,rfl⟩⟩
 have hzw:=BS
 have hzs:=eF
 have hmm:= @run_makeMap Tryz.prog
 clear hi hz0 hz1 hz2
 go_enter Tryz.func35,Tryz.ntmps35
 go_wp2
 go_ret
 refine⟨_,_,_,rfl,?_,HX.out,(((Below.refl _ _).alloc (Nat.le_refl _) _).alloc (by simp) _).alloc (by simp;omega) _⟩
 rintro k (rfl|rfl|rfl)<;>simp<;>omega
end Go.Proofs.YtjlbmmiomfpgiaaGreatDoor.Wh

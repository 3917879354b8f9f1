/- YtnmhcgpnhlhcgaaGreatDoorKk: of the texts V1 Wa1 Wa0 Wa2 V2 V3 Wa3 Wa4 Wa5 Wa6 Wa7 Wa8 Wa9 Wb1 Wb2 Wb3 Wb4 Wb5 Wb6 Wg1 what is wanted. -/
import Derived.Test.YtnmhcgpnhlhcgaaGreatDoorK0
import Derived.Test.YtnmhcgpnhlhcgaaGreatDoorRows
import Derived.WalkKit
import Derived.Below
import Derived.WalkSpells
import Derived.WalkLawsBesides
import Derived.StillTactics
import Derived.RegionTactic
import Derived.RowKit3
import Derived.Laws.MakeOwn
import Derived.OwnWalk
import Derived.Deep.QuietTactic
import Derived.BigQuiet
import Derived.Maps.OwnSet
import Derived.Maps.RangeWalk
import Derived.Deep.RegionHeld3
import Derived.Deep.DrawnRows
import Derived.Lib.SmallJoins
import Derived.Maps.Own
import Derived.Deep.Cut
import Derived.Laws.OwnMore
import Derived.Laws.IdiomCopy
import Derived.Sort.OwnSorted
set_option maxHeartbeats 16000000
set_option maxRecDepth 100000
set_option linter.unusedVariables false
set_option linter.defProp false
set_option linter.unusedSimpArgs false
namespace Go.Proofs.YtnmhcgpnhlhcgaaGreatDoor.Wh
open Go.RowKit
structure aH (w:World) (b g n nw ct:Nat) (fm:Value) (F L A B E:Nat->Nat) (T:Nat->Bool):Prop where
 bg:b≠g
 en: ∃cp,w.cell? (af b 130)=some (.slice (some (ao g)) (n+1) cp)
 tn:w.cell? (ao b)=some (aj nw)
 tm:w.cell? (af b 129)=some (fm)
 tc:w.cell? (af b 131)=some (ab ct)
 sf: ∀x,x<64->w.cell? (af b (1+x*2))=some (ab ((F x:Nat):Int))
 sl: ∀x,x<64->w.cell? (af b (1+x*2+1))=some (ab ((L x:Nat):Int))
 ea: ∀x,x<=n->w.cell? (af g (x*4))=some (ab ((A x:Nat):Int))
 eb: ∀x,x<=n->w.cell? (af g (x*4+1))=some (ab ((B x:Nat):Int))
 ee: ∀x,x<=n->w.cell? (af g (x*4+2))=some (aj ((E x:Nat):Int))
 et: ∀x,x<=n->w.cell? (af g (x*4+3))=some (.bool (T x))
 fb: ∀o,w.frozen? (af b o)=false
 fg: ∀o,w.frozen? (af g o)=false
section
variable {w:World} {b g n nw c:Nat} {a:Value} {F L A B E:Nat->Nat} {T:Nat->Bool}
def aH.cG (h:aH w b g n nw c a F L A B E T):b<w.heap.size:=i7 w (ao b) h.tn
def aH.dO (h:aH w b g n nw c a F L A B E T):g<w.heap.size:=i7 w (af g (0*4)) (h.ea 0 (Nat.zero_le _))
theorem aH.kept {w':World} (h:aH w b g n nw c a F L A B E T) (e:w'.heap[b]? =w.heap[b]?) (d:w'.heap[g]? =w.heap[g]?):aH w' b g n nw c a F L A B E T:=by
 have:=LX e
 have:=LX d
 exact mK
def aH.dc {w':World} (h:aH w b g n nw c a F L A B E T) (e:w'.heap=w.heap):aH w' b g n nw c a F L A B E T:=h.kept (by rw[e]) (by rw[e])
def aH.drew (h:aH w b g n nw c a F L A B E T):aH w.drew b g n nw c a F L A B E T:=h.dc rfl
def aH.below (h:aH w b g n nw c a F L A B E T) {w':World} (hw:aC w w'):aH w' b g n nw c a F L A B E T:=h.kept (hw.block b h.cG) (hw.block g h.dO)
def aH.alloc (h:aH w b g n nw c a F L A B E T) (o:Obj):aH (w.alloc o) b g n nw c a F L A B E T:=h.below (cj.alloc aT o)
def aH.NM (h:aH w b g n nw c a F L A B E T) (v:Nat):aH (w.setCell (ao b) (aj v)) b g n v c a F L A B E T:=mK
def aH.xA (h:aH w b g n nw c a F L A B E T) (v:Nat):aH (w.setCell (af b 131) (ab v)) b g n nw v a F L A B E T:=mK
theorem aH.dJ (h:aH w b g n nw c a F L A B E T) (p:Nat) (d:p<64) (v:Nat):aH (w.setCell (af b (1+p*2)) (ab v)) b g n nw c a (ay F p v) L A B E T:=mK
def aH.rA (h:aH w b g n nw c a F L A B E T) (p:Nat) (d:p<64) (v:Nat):aH (w.setCell (af b (1+p*2+1)) (ab v)) b g n nw c a F (ay L p v) A B E T:=mK
def aH.gk (h:aH w b g n nw c a F L A B E T) (p:Nat) (d:p<=n) (v:Nat):aH (w.setCell (af g (p*4)) (ab v)) b g n nw c a F L (ay A p v) B E T:=mK
def aH.gd (h:aH w b g n nw c a F L A B E T) (p:Nat) (d:p<=n) (v:Nat):aH (w.setCell (af g (p*4+1)) (ab v)) b g n nw c a F L A (ay B p v) E T:=mK
def aH.Me (h:aH w b g n nw c a F L A B E T) (p:Nat) (d:p<=n) (v:Nat):aH (w.setCell (af g (p*4+2)) (aj v)) b g n nw c a F L A B (ay E p v) T:=mK
def aH.nX (h:aH w b g n nw c a F L A B E T) (p:Nat) (d:p<=n) (v:Bool):aH (w.setCell (af g (p*4+3)) (.bool v)) b g n nw c a F L A B E (ay T p v):=mK
end
end Go.Proofs.YtnmhcgpnhlhcgaaGreatDoor.Wh
namespace Go.Proofs.YtnmhcgpnhlhcgaaGreatDoor.Wh
structure It where
 i:Nat
 t:Nat
def lB (S:List It):Prop:=S.Pairwise (fun a c=>a.t<=c.t)
def ins (x:It) (S:List It):List It:=S.filter (fun y=>decide (y.t<=x.t))++x::S.filter (fun y=> !decide (y.t<=x.t))
def ky (nw:Nat) (x:It):Nat:=max x.t nw
def fZ (nw:Nat) (S:List It) (k:Nat):List It:=S.filter (fun x=>ky nw x==k)
def due (a:Nat) (S:List It):List It:=S.filter (fun x=>decide (x.t<=a))
def late (a:Nat) (S:List It):List It:=S.filter (fun x=> !decide (x.t<=a))
def ai (S:List It):List Nat:=S.map (fun x=>x.i+1)
section
variable {S:List It} {x:It} {p:It->Bool}
def lB.filter (h:lB S) (q:It->Bool):lB (S.filter q):=List.Pairwise.filter q h
def gV: ∀{S:List It},lB S->(∀a c:It,a.t<=c.t->p c=true->p a=true)->S.filter p++S.filter (fun y=> !p y)=S
 |[],_,_=>rfl
 |a::S,h,d=>by
  obtain⟨i,f⟩:=List.pairwise_cons.1 h
  cases b:p a with
  |true=>simp[b,gV f d]
  |false=>
   have e: ∀y∈S,p y=false:=fun y g=>by
    grind
   have k:S.filter p=[]:=(by simp_all)
   have j:S.filter (fun y=> !p y)=S:=(by simp_all)
   grind
def mF (h:lB S) (a:Nat):S.filter (fun y=>decide (y.t<=a))++S.filter (fun y=> !decide (y.t<=a))=S:=
 gV h y_
def vr (h:lB S) (a:Nat):due a S++late a S=S:=mF h a
theorem lB.ins (h:lB S) (x:It):lB (ins x S):=by
 refine List.pairwise_append.2 ⟨h.filter _,List.pairwise_cons.2 ⟨fun y b=> ?_,h.filter _⟩,fun a e c d=> ?_⟩
 ·grind
 grind
theorem cQ {y:It}:y∈Go.Proofs.YtnmhcgpnhlhcgaaGreatDoor.Wh.ins x S↔y=x\/y∈S:=by
 grind[Wh.ins]
def vp (h:lB S):(Go.Proofs.YtnmhcgpnhlhcgaaGreatDoor.Wh.ins x S).Perm (x::S):=by
 have e:Go.Proofs.YtnmhcgpnhlhcgaaGreatDoor.Wh.ins x S=S.filter (fun y=>decide (y.t<=x.t))++x::S.filter (fun y=> !decide (y.t<=x.t)):=rfl
 rw[e]
 refine List.perm_middle.trans ?_
 rw[mF h]
def yO (h:lB S):(Go.Proofs.YtnmhcgpnhlhcgaaGreatDoor.Wh.ins x S).length=S.length+1:=by rw[(vp h).length_eq];rfl
theorem yh (h:lB S) (q:It->Bool):(Go.Proofs.YtnmhcgpnhlhcgaaGreatDoor.Wh.ins x S).filter q=if q x then Go.Proofs.YtnmhcgpnhlhcgaaGreatDoor.Wh.ins x (S.filter q) else S.filter q:=by
 have e:Go.Proofs.YtnmhcgpnhlhcgaaGreatDoor.Wh.ins x S=S.filter (fun y=>decide (y.t<=x.t))++x::S.filter (fun y=> !decide (y.t<=x.t)):=rfl
 have f:Go.Proofs.YtnmhcgpnhlhcgaaGreatDoor.Wh.ins x (S.filter q)=(S.filter q).filter (fun y=>decide (y.t<=x.t))++x::(S.filter q).filter (fun y=> !decide (y.t<=x.t)):=rfl
 have d: ∀(a b:It->Bool),(S.filter a).filter b=(S.filter b).filter a:=fun a b=>by
  rw[List.filter_filter,List.filter_filter]
  grind
 rw[e,f,List.filter_append,d _ q,List.filter_cons,d _ q]
 by_cases c:q x=true
 ·grind
 ·rw[if_neg c,if_neg c]
  exact mF (h.filter q) _
def Bo (h:lB S) (a k:Nat):fZ a (Go.Proofs.YtnmhcgpnhlhcgaaGreatDoor.Wh.ins x S) k=if ky a x=k then Go.Proofs.YtnmhcgpnhlhcgaaGreatDoor.Wh.ins x (fZ a S k) else fZ a S k:=by
 grind[Wh.fZ,Wh.yh]
def fP (nw:Nat) (S:List It) (lo:Nat):Nat->List It
 |0=>[]
 |m+1=>fP nw S lo m++fZ nw S (lo+m)
def uA (h:lB S) (b lo m:Nat):fP b S lo m=S.filter (fun x=>decide (lo<=ky b x)&&decide (ky b x<lo+m)):=by
 induction m with
 |zero=>
  unfold fP
  simp
 |succ m e=>
  unfold fP
  rw[e]
  have f:=gV (p:=fun x=>decide (ky b x<lo+m)) (h.filter (fun x=>decide (lo<=ky b x)&&decide (ky b x<lo+(m+1)))) (fun a c g d=>xZ0 (by have d:=of_decide_eq_true d;unfold ky at*;omega))
  rw[<-f,List.filter_filter,List.filter_filter]
  congr 1
  ·congr 1
   funext y
   grind
  ·unfold fZ
   congr 1
   funext y
   grind
def many (b:Nat) (S:List It) (a:List Nat):List It:=a.flatMap (fZ b S)
theorem tE (h:lB S) (b:Nat): ∀(ts:List Nat),ts.Pairwise (· < ·)->many b S ts=S.filter (fun x=>decide (ky b x∈ts))
 |[],_=>by
  grind[Wh.many,List.filter_eq_nil_iff]
 |t::ts,g=>by
  obtain⟨k,j⟩:=List.pairwise_cons.1 g
  have e:many b S (t::ts)=fZ b S t++many b S ts:=rfl
  rw[e,tE h b ts j]
  have f:=gV (p:=fun x=>decide (ky b x<=t)) (h.filter (fun x=>decide (ky b x∈t::ts))) (fun a c i d=>xZ0 (by have d:=of_decide_eq_true d;unfold ky at*;omega))
  rw[<-f,List.filter_filter,List.filter_filter]
  congr 1
  ·unfold fZ
   congr 1
   funext y
   grind
  ·congr 1
   funext y
   grind
def dA (S:List It):(ai S).length=S.length:=by simp[ai]
def dW (S T:List It):ai (S++T)=ai S++ai T:=by simp[ai]
def cl {q:Nat}:q∈ai S↔ ∃y∈S,y.i+1=q:=by simp[ai]
def nu: ∀q∈ai S,q≠0:=fun q a=>by obtain⟨y,_,rfl⟩:=cl.1 a;omega
end
def oU (A B:Nat->Nat):Nat->List Nat->Nat->Prop
 |_,[],_=>True
 |p,x::xs,q=>A x=p/\B x=xs.headD q/\oU A B x xs q
structure oP (A B:Nat->Nat) (f l:Nat) (xs:List Nat):Prop where
 f:f=xs.headD 0
 l:l=xs.getLastD 0
 s:oU A B 0 xs 0
def fv (f:Nat->Nat) (i x:Nat):Nat->Nat:=if i=0 then f else ay f i x
section
variable {A B c b:Nat->Nat} {xs a:List Nat} {p q x:Nat}
def jq (xs a:List Nat) (d:Nat):(xs++a).getLastD d=a.getLastD (xs.getLastD d):=by
 simp
def tS (xs a:List Nat) (d:Nat):(xs++a).headD d=xs.headD (a.headD d):=q_
def oU.append: ∀{xs:List Nat} {p:Nat},oU A B p (xs++a) q↔oU A B p xs (a.headD q)/\oU A B (xs.getLastD p) a q
 |[],p=>by simp[oU]
 |x::xs,p=>by
  show(A x=p/\B x=(xs++a).headD q/\oU A B x (xs++a) q)↔(A x=p/\B x=xs.headD (a.headD q)/\oU A B x xs (a.headD q))/\oU A B ((x::xs).getLastD p) a q
  rw[tS,oU.append (xs:=xs),show(x::xs).getLastD p=xs.getLastD x by grind]
  grind
def oU.congr: ∀{xs:List Nat} {p:Nat},oU A B p xs q->(∀x∈xs,c x=A x/\b x=B x)->oU c b p xs q
 |[],_,_,_=>trivial
 |x::xs,p,⟨f,e,d⟩,h=>by
  have g:=h x q_
  exact⟨g.1.trans f,g.2.trans e,d.congr y_⟩
def oU.toEnd: ∀{xs:List Nat} {p q q':Nat},oU A B p xs q->xs.Nodup->(∀y∈xs,y≠0)->oU A (fv B (xs.getLastD 0) q') p xs q'
 |[],_,_,_,_,_,_=>trivial
 |[x],p,q,q',⟨f,e,_⟩,g,i=>by
  refine⟨f,?_,trivial⟩
  show fv B x q' x=q'
  unfold fv
  grind[ay]
 |x::y::xs,p,q,q',⟨f,e,d⟩,g,i=>by
  obtain⟨j,h⟩:=yV0.1 g
  refine⟨f,?_,?_⟩
  ·show fv B ((x::y::xs).getLastD 0) q' x=y
   unfold fv
   grind[ay]
  ·have:=oU.toEnd (q':=q') d h y_
   rwa [show(x::y::xs).getLastD 0=(y::xs).getLastD 0 by rfl]
def oU.Hp {xs:List Nat} {p p' q:Nat} (h:oU A B p xs q) (i:xs.Nodup) (m: ∀y∈xs,y≠0):oU (fv A (xs.headD 0) p') B p' xs q:=by
 match xs,h with
 |[],_=>trivial
 |x::xs,⟨g,f,d⟩=>
  obtain⟨l,k⟩:=yV0.1 i
  have e:fv A ((x::xs).headD 0) p'=ay A x p':=by
   grind[Wh.fv]
  rw[e]
  refine⟨aE _ _ _,f,d.congr (fun y j=>⟨aq _ _ _ _ y_,rfl⟩)⟩
theorem gT (f:Nat->Nat) (i v j:Nat) (h:j≠i):fv f i v j=f j:=by
 unfold fv
 grind[ay]
def wW {xs:List Nat} (h:xs.getLastD 0≠0):xs.getLastD 0∈xs:=by
 grind
theorem head_mem {xs:List Nat} (h:xs.headD 0≠0):xs.headD 0∈xs:=by
 cases xs with
 |nil=>grind
 |cons y a=>simp
theorem last_zero {xs:List Nat} (d: ∀y∈xs,y≠0) (h:xs.getLastD 0=0):xs=[]:=by
 rcases xs.eq_nil_or_concat with rfl|⟨a,y,rfl⟩
 ·rfl
 grind
theorem rV {xs:List Nat} (d: ∀y∈xs,y≠0) (h:xs.headD 0=0):xs=[]:=by
 cases xs with
 |nil=>rfl
 |cons y a=>grind
variable {P Q:List Nat} {f l:Nat}
def oP.tie (h:oP A B f l (P++Q)) (u:(P++Q).Nodup) (D: ∀y∈P++Q,y≠0) (z:x ∉ P++Q) (t:x≠0):
  oP (fv (ay A x (P.getLastD 0)) (Q.headD 0) x) (fv (ay B x (Q.headD 0)) (P.getLastD 0) x) (if P.getLastD 0=0 then x else f) (if Q.headD 0=0 then x else l) (P++x::Q):=by
 obtain⟨i,g,C⟩:=List.nodup_append.1 u
 have k: ∀y∈P,y≠0:=fun y d=>y_
 have j: ∀y∈Q,y≠0:=fun y d=>y_
 have r:x ∉ P:=fun q=>y_
 have o:x ∉ Q:=fun q=>y_
 have v:P.getLastD 0≠0->P.getLastD 0∈P:=wW
 have w:Q.headD 0≠0->Q.headD 0∈Q:=head_mem
 obtain⟨n,m⟩:=oU.append.1 h.s
 refine⟨?_,?_,oU.append.2 ⟨?_,?_⟩⟩
 ·split
  ·grind[Wh.last_zero]
  ·rename_i e
   rw[h.f]
   cases P with
   |nil=>grind
   |cons y a=>rfl
 ·rw[jq]
  split
  ·grind[Wh.rV]
  ·rename_i e
   rw[h.l,jq]
   grind
 ·refine(n.toEnd (q':=x) i k).congr (fun y d=>⟨?_,?_⟩)
  ·grind[Wh.gT,aq]
  ·unfold fv
   grind[ay]
 ·refine⟨?_,?_,?_⟩
  ·grind[Wh.gT,aE]
  ·grind[Wh.gT,aE]
  ·refine(m.Hp (p':=x) g j).congr (fun y d=>⟨?_,?_⟩)
   ·unfold fv
    grind[ay]
   grind[Wh.gT,aq]
def oP.P7 (h:oP A B f l (P++x::Q)):A x=P.getLastD 0/\B x=Q.headD 0:=by
 obtain⟨_,d⟩:=oU.append.1 h.s
 exact⟨d.1,d.2.1⟩
def oP.congr (h:oP A B f l xs) (d: ∀x∈xs,c x=A x/\b x=B x):oP c b f l xs:=⟨h.f,h.l,h.s.congr d⟩
def oP.nil:oP A B 0 0 []:=⟨rfl,rfl,trivial⟩
end
open Go.RowKit
open Go.Maps (Keyed)
theorem yv:Keyed Tryz.prog 25:=Go.Maps.int_keyed Tryz.underlying25
def RL:Value->Option (DataW Unit×List MemPlace)
 | .agg ⟨[.int .i64 a,.int .i64 c]⟩=>some (.agg [.lit (.int .i64 a),.lit (.int .i64 c)],[])
 |_=>none
theorem KC (a c:Int):RL (.agg #[.int .i64 a,.int .i64 c])=some (.agg [.lit (.int .i64 a),.lit (.int .i64 c)],[]):=rfl
def GB {v:Value} {z:DataW Unit×List MemPlace} (h:RL v=some z): ∃a c,v= .agg #[.int .i64 a,.int .i64 c]/\z=(.agg [.lit (.int .i64 a),.lit (.int .i64 c)],[]):=by
 unfold RL at h
 split at h
 ·rename_i a c
  exact⟨a,c,rfl,by exact mK⟩
 ·cases h
def bU (w:World) (b:Nat) (f:Int->Option (Nat×Nat)) (s:Nat):Prop:=
 ∃D:DataW Unit,w.ownsMap Tryz.prog 25 RL b s D/\(∀i,Maps.has D (.int .u64 i)=(f i).isSome)/\(∀i c a,f i=some c->D.atKey (.int .u64 i) a= .agg [.lit (.int .i64 c.1),.lit (.int .i64 c.2)])/\Maps.size D=s
def dJ (f:Int->Option (Nat×Nat)) (i:Int) (o:Option (Nat×Nat)):Int->Option (Nat×Nat):=fun j=>if j=i then o else f j
section
variable {w w':World} {b s:Nat} {f:Int->Option (Nat×Nat)}
def bU.made (w:World):bU (w.alloc (.map #[] 0)) w.heap.size (fun _=>none) 0:=
 ⟨.map [],World.ownsMap_made w _ _ _,fun _=>rfl,fun i c a h=>(by cases h),rfl⟩
theorem bU.lt (h:bU w b f s):b<w.heap.size:=by obtain⟨D,h,_⟩:=h;exact h.lt
theorem bU.block (h:bU w b f s) (c:w'.heap[b]? =w.heap[b]?):bU w' b f s:=by
 obtain⟨D,⟨i,a,g,e⟩,d⟩:=h
 exact⟨D,⟨i,a,by rw[c];exact g,e⟩,d⟩
theorem Fk (w:World):(zeroValue 174).run Tryz.prog w= .ok (.agg #[ab 0,ab 0]) w:=by rfl
def yy (i:Int) (hi:(Lit.int .u64 i).wf=true):keyOf Tryz.prog 25 (.int .u64 i)=some (.int .u64 i):=Go.Maps.keyOf_int_mk q_ hi
def bU.look (h:bU w b f s) (i:Int) (hi:(Lit.int .u64 i).wf=true):
  (Instr.lookup 171 (.map (some b)) (.int .u64 i) false).run Tryz.prog w= .ok (.agg #[.int .i64 (((f i).getD (0,0)).1:Int),.int .i64 (((f i).getD (0,0)).2:Int)]) w:=by
 obtain⟨D,o,n,m,_⟩:=h
 obtain⟨v,q,k,j⟩:=o.lookup yv (t:=171) (e:=174) q_ (Fk w) (KC 0 0) (yy i hi)
 rw[k]
 obtain⟨a,c,rfl,hz⟩:=GB j
 have d:=congrArg Prod.fst hz
 simp only at d
 cases g:f i with
 |none=>
  have l:Maps.has D (.int .u64 i)=false:=by rw[n i,g];rfl
  rw[Maps.atKey_of_not_has l] at d
  simp at d
  rw[<-d.1,<-d.2]
  rfl
 |some p=>
  rw[m i p _ g] at d
  simp at d
  rw[<-d.1,<-d.2]
  rfl
def nK {i j:Int} (h:i≠j):(Lit.int .u64 i)≠(Lit.int .u64 j):=fun e=>h y_
theorem kD (i:Int):WideAt.IsKeyLit (Lit.int .u64 i):=trivial
def dw {d:Array Oper} {c:List Oper} {o:Oper} {a:Act} {Q:Exit->Act->World->Prop} (t:o.guard=none) (m x:Operand) (l:o.op=Op.call {callee:=Callee.builtin Builtin.delete,args:= #[m,x],argTypes:= #[171,25]})
  (h:bU w b f s) (i:Int) (hi:(Lit.int .u64 i).wf=true) (r:a.eval m= .map (some b)) (q:a.eval x= .int .u64 i)
  (u: ∀w',bU w' b (dJ f i none) (if (f i).isSome then s-1 else s)->w.grownBy w' (some b)->wpList Tryz.prog d Q c (a.put o.dst (.tuple #[])) w'):
  wpList Tryz.prog d Q (o::c) a w:=by
 obtain⟨D,y,v,B,A⟩:=h
 refine wpList_delete_own w t m x 171 25 l 174 yv q_ RL b s D r y (.int .u64 i) (.int .u64 i) q (yy i hi) ?_
 intro w' p n
 have g:Maps.size (D.del (.int .u64 i))=if (f i).isSome then s-1 else s:=by
  grind[Maps.size_del,World.ownsMap.tidy,Wh.yv]
 refine u w' ⟨_,tight p g,fun j=> ?_,fun j C z k=> ?_,g⟩ (World.mapTurned.grown n)
 ·unfold dJ
  by_cases e:j=i
  ·subst e
   rw[if_pos rfl,Maps.has_del_same]
   rfl
  ·rw[if_neg e,Maps.has_del_other (nK e),v j]
 ·unfold dJ at k
  by_cases e:j=i
  ·subst e
   rw[if_pos rfl] at k
   cases k
  ·rw[if_neg e] at k
   grind[Maps.atKey_del_other]
end
end Go.Proofs.YtnmhcgpnhlhcgaaGreatDoor.Wh
namespace Go.Proofs.YtnmhcgpnhlhcgaaGreatDoor.Wh
structure Inv (n nw ct:Nat) (F L:Nat->Nat) (fr:Int->Option (Nat×Nat)) (A B E:Nat->Nat) (T:Nat->Bool) (S:List It):Prop where
 srt:lB S
 nd:(S.map (·.i)).Nodup
 lt: ∀x∈S,x.i<n
 tm: ∀x∈S,x.t<18446744073709551616
 hw:nw<18446744073709551616
 hc:ct=S.length
 slot: ∀s,s<64->oP A B (F s) (L s) (ai (fZ nw S (nw/64*64+s)))
 fM: ∀k:Nat,nw/64<k/64->(fr (k:Int)=none/\fZ nw S k=[])\/(∃f l:Nat,fr (k:Int)=some (f,l)/\fZ nw S k≠[]/\oP A B f l (ai (fZ nw S k)))
 out: ∀i:Int,(fr i).isSome=true-> ∃k:Nat,i=(k:Int)/\nw/64<k/64
 jB: ∀x∈S,T (x.i+1)=true/\E (x.i+1)=x.t
 zer: ∀p,p<=n->(∀x∈S,x.i+1≠p)->T p=false/\E p=0
def lK (a:Nat) (F L:Nat->Nat) (b:Int->Option (Nat×Nat)) (k:Nat):Nat×Nat:=if k/64=a/64 then(F (k%64),L (k%64)) else(b (k:Int)).getD (0,0)
def mU (a:Nat) (F:Nat->Nat) (k f:Nat):Nat->Nat:=if k/64=a/64 then ay F (k%64) f else F
def lX (b:Nat) (a:Int->Option (Nat×Nat)) (k f l:Nat):Int->Option (Nat×Nat):=if k/64=b/64 then a else dJ a k (if f=0 then none else some (f,l))
section
variable {n nw a:Nat} {F L:Nat->Nat} {fr:Int->Option (Nat×Nat)} {A B E A' B' E':Nat->Nat} {T b:Nat->Bool} {S S':List It}
theorem Inv.list (h:Inv n nw a F L fr A B E T S) (k:Nat) (g:nw<=k):oP A B (lK nw F L fr k).1 (lK nw F L fr k).2 (ai (fZ nw S k)):=by
 unfold lK
 by_cases e:k/64=nw/64
 ·rw[if_pos e]
  have:=h.slot (k%64) z_
  rwa [show nw/64*64+k%64=k by omega] at this
 ·rw[if_neg e]
  rcases h.fM k z_ with ⟨d,c⟩|⟨f,l,d,_,c⟩
  ·rw[d,c];exact oP.nil
  ·rw[d];exact c
def GF (h:(S.map (·.i)).Nodup) {x y:It} (d:x∈S) (g:y∈S) (e:x.i=y.i):x=y:=by
 induction S with
 |nil=>cases d
 |cons c S f=>
  grind
def dV {k:Nat} {x:It}:x∈fZ nw S k↔x∈S/\ky nw x=k:=by
 unfold fZ
 simp
def mq (h:(S.map (·.i)).Nodup):(ai S).Nodup:=by
 unfold ai
 grind
def pK {q:It->Bool} (h:(S.map (·.i)).Nodup):((S.filter q).map (·.i)).Nodup:=y_
theorem Inv.keep (h:Inv n nw a F L fr A B E T S) (k f l:Nat) (H:nw<=k) (C: ∀j,j≠k->fZ nw S' j=fZ nw S j)
  (D: ∀y∈S,ky nw y≠k->A' (y.i+1)=A (y.i+1)/\B' (y.i+1)=B (y.i+1)) (d:oP A' B' f l (ai (fZ nw S' k))):
  (∀s,s<64->oP A' B' (mU nw F k f s) (mU nw L k l s) (ai (fZ nw S' (nw/64*64+s))))/\
  (∀j:Nat,nw/64<j/64->(lX nw fr k f l (j:Int)=none/\fZ nw S' j=[])\/(∃t o:Nat,lX nw fr k f l (j:Int)=some (t,o)/\fZ nw S' j≠[]/\oP A' B' t o (ai (fZ nw S' j))))/\
  (∀i:Int,(lX nw fr k f l i).isSome=true-> ∃k:Nat,i=(k:Int)/\nw/64<k/64):=by
 have q: ∀j,j≠k-> ∀f l,oP A B f l (ai (fZ nw S j))->oP A' B' f l (ai (fZ nw S' j)):=fun j r f l z=>by
  rw[C j r]
  refine z.congr (fun p x=> ?_)
  obtain⟨y,w,rfl⟩:=cl.1 x
  obtain⟨v,u⟩:=dV.1 w
  grind
 refine⟨fun s G=> ?_,fun j r=> ?_,fun i hi=> ?_⟩
 ·unfold mU
  by_cases e:k/64=nw/64
  ·rw[if_pos e,if_pos e]
   grind[aE,aq,Wh.Inv.slot]
  ·rw[if_neg e,if_neg e]
   grind[Wh.Inv.slot]
 ·unfold lX
  by_cases e:k/64=nw/64
  ·rw[if_pos e]
   grind[Wh.Inv.fM]
  ·rw[if_neg e]
   by_cases m:j=k
   ·subst m
    unfold dJ
    rw[if_pos rfl]
    by_cases c:f=0
    ·rw[if_pos c]
     have g:=rV (xs:=ai (fZ nw S' j)) nu (d.f.symm.trans c)
     exact .inl ⟨rfl,by simpa [ai] using g⟩
    ·rw[if_neg c]
     refine .inr ⟨f,l,rfl,fun g=>c ?_,d⟩
     rw[d.f,g];rfl
   ·unfold dJ
    rw[if_neg z_]
    grind[Wh.Inv.fM]
 ·unfold lX at hi
  by_cases e:k/64=nw/64
  ·rw[if_pos e] at hi;exact h.out i hi
  ·rw[if_neg e] at hi
   unfold dJ at hi
   by_cases m:i=k
   ·grind
   ·rw[if_neg m] at hi;exact h.out i hi
def pre (nw:Nat) (S:List It) (t:Nat):List Nat:=ai ((fZ nw S (max t nw)).filter (fun y=>decide (y.t<=t)))
def qQ (nw:Nat) (S:List It) (t:Nat):List Nat:=ai ((fZ nw S (max t nw)).filter (fun y=> !decide (y.t<=t)))
def Inv.Gn (h:Inv n nw a F L fr A B E T S) (t:Nat):ai (fZ nw S (max t nw))=pre nw S t++qQ nw S t:=by
 unfold pre qQ
 rw[<-dW,mF (S:=fZ nw S (max t nw)) (h.srt.filter _)]
def Inv.set (h:Inv n nw a F L fr A B E T S) (id t:Nat) (u:id<n) (P:T (id+1)=false) (J:t<18446744073709551616):
  Inv n nw (a+1) (mU nw F (max t nw) (if (pre nw S t).getLastD 0=0 then id+1 else(lK nw F L fr (max t nw)).1)) (mU nw L (max t nw) (if (qQ nw S t).headD 0=0 then id+1 else(lK nw F L fr (max t nw)).2))
   (lX nw fr (max t nw) (if (pre nw S t).getLastD 0=0 then id+1 else(lK nw F L fr (max t nw)).1) (if (qQ nw S t).headD 0=0 then id+1 else(lK nw F L fr (max t nw)).2))
   (fv (ay A (id+1) ((pre nw S t).getLastD 0)) ((qQ nw S t).headD 0) (id+1)) (fv (ay B (id+1) ((qQ nw S t).headD 0)) ((pre nw S t).getLastD 0) (id+1)) (ay E (id+1) t) (ay T (id+1) true) (ins ⟨id,t⟩ S):=by
 have r: ∀y∈S,y.i≠id:=fun y f e=>by
  have:=(h.jB y f).1
  grind
 have d:=h.Gn t
 have g:=h.list (max t nw) z_
 rw[d] at g
 have k: ∀p∈pre nw S t++qQ nw S t,∃y∈S,ky nw y=max t nw/\y.i+1=p:=fun p o=>by
  rw[<-d] at o
  obtain⟨y,f,rfl⟩:=cl.1 o
  exact⟨y,(dV.1 f).1,(dV.1 f).2,rfl⟩
 have m:id+1 ∉ pre nw S t++qQ nw S t:=fun q=>by
  grind
 have s:(pre nw S t++qQ nw S t).Nodup:=by rw[<-d];exact mq (pK h.nd)
 have O: ∀y∈pre nw S t++qQ nw S t,y≠0:=fun y f=>by grind
 have G:=g.tie (x:=id+1) s O m z_
 have N:fZ nw (ins ⟨id,t⟩ S) (max t nw)=ins ⟨id,t⟩ (fZ nw S (max t nw)):=by
  rw[Bo h.srt]
  exact if_pos rfl
 have v:ai (fZ nw (ins ⟨id,t⟩ S) (max t nw))=pre nw S t++(id+1)::qQ nw S t:=by
  rw[N]
  unfold ins pre qQ
  rw[dW]
  rfl
 rw[<-v] at G
 have l: ∀y∈S,ky nw y≠max t nw->y.i+1 ∉ pre nw S t++qQ nw S t:=fun y f D q=>by
  obtain⟨z,hz,I,e⟩:=k _ q
  have:z=y:=GF h.nd hz f z_
  grind
 have K:=h.keep (S':=ins ⟨id,t⟩ S) (max t nw) _ _ z_ (fun j M=>by
  rw[Bo h.srt]
  exact if_neg (fun e=>M e.symm)) (fun y f D=>by
   have H:=l y f D
   have w:=r y f
   have R:y.i+1≠(qQ nw S t).headD 0:=fun e=>by
    grind[Wh.head_mem]
   have Q:y.i+1≠(pre nw S t).getLastD 0:=fun e=>by
    grind
   grind[Wh.gT,aq]) G
 refine⟨h.srt.ins _,?_,?_,?_,h.hw,?_,K.1,K.2.1,K.2.2,?_,?_⟩
 ·refine((vp (x:=⟨id,t⟩) h.srt).map (·.i)).nodup_iff.2 ?_
  rw[List.map_cons,yV0]
  refine⟨fun q=> ?_,h.nd⟩
  grind
 ·intro x c
  rcases cQ.1 c with rfl|c
  ·exact u
  ·exact h.lt x c
 ·intro x c
  rcases cQ.1 c with rfl|c
  ·exact J
  ·exact h.tm x c
 ·rw[yO h.srt,h.hc]
 ·intro x c
  rcases cQ.1 c with rfl|c
  ·grind[ay]
  grind[aq,Wh.Inv.jB]
 ·intro p o C
  have H:=C ⟨id,t⟩ (cQ.2 (.inl rfl))
  have w:p≠id+1:=fun e=>H e.symm
  rw[aq _ _ _ _ w,aq _ _ _ _ w]
  exact h.zer p o (fun x c=>C x (cQ.2 (.inr c)))
def lS {c:Nat} {x:It}:x∈late c S↔x∈S/\c<x.t:=by
 unfold late
 simp
def oW {to:Nat} {x:It}:x∈due to S↔x∈S/\x.t<=to:=by
 unfold due
 simp
def lQ {c:Nat} (h:nw<=c) (j:Nat):fZ c (late c S) j=if j<=c then [] else fZ nw S j:=by
 unfold fZ late
 rw[List.filter_filter]
 by_cases d:j<=c
 ·rw[if_pos d,List.filter_eq_nil_iff]
  grind[Wh.ky]
 ·rw[if_neg d]
  congr 1
  funext y
  rw[Bool.eq_iff_iff]
  simp[ky]
  omega
def Inv.Qp (h:Inv n nw a F L fr A B E T S) {z w:Nat->Nat} {g:Int->Option (Nat×Nat)} (c:Nat) (d:nw<=c) (I:c<18446744073709551616)
  (J: ∀s,s<64->if c/64*64+s<=c then z s=0/\w s=0 else z s=(lK nw F L fr (c/64*64+s)).1/\w s=(lK nw F L fr (c/64*64+s)).2)
  (Q: ∀k:Nat,c/64<k/64->g (k:Int)=fr (k:Int)) (N: ∀i:Int,(g i).isSome=true-> ∃k:Nat,i=(k:Int)/\c/64<k/64)
  (v: ∀y∈S,c<y.t->A' (y.i+1)=A (y.i+1)/\B' (y.i+1)=B (y.i+1)/\E' (y.i+1)=E (y.i+1)/\b (y.i+1)=T (y.i+1))
  (hz: ∀p,p<=n->(∀y∈S,c<y.t->y.i+1≠p)->b p=false/\E' p=0):
  Inv n c (late c S).length z w g A' B' E' b (late c S):=by
 have R: ∀j f l,c<j->oP A B f l (ai (fZ nw S j))->oP A' B' f l (ai (fZ c (late c S) j)):=fun j f l V O=>by
  rw[lQ d,if_neg z_]
  refine O.congr (fun p u=> ?_)
  obtain⟨y,q,rfl⟩:=cl.1 u
  obtain⟨D,C⟩:=dV.1 q
  have:=v y D (by unfold ky at C;omega)
  omega
 refine⟨h.srt.filter _,pK h.nd,fun x m=>h.lt x (lS.1 m).1,fun x m=>h.tm x (lS.1 m).1,I,rfl,fun s r=> ?_,fun k P=> ?_,N,fun x m=> ?_,fun p u M=> ?_⟩
 ·have:=J s r
  by_cases e:c/64*64+s<=c
  ·rw[if_pos e] at this
   rw[this.1,this.2,lQ d,if_pos e]
   exact oP.nil
  ·rw[if_neg e] at this
   rw[this.1,this.2]
   grind[Wh.Inv.list]
 ·rw[Q k P,lQ d,if_neg z_]
  rcases h.fM k z_ with ⟨H,G⟩|⟨f,l,H,G,U⟩
  ·grind
  ·refine .inr ⟨f,l,H,G,?_⟩
   have:=R k f l z_ U
   rwa [lQ d,if_neg z_] at this
 ·obtain⟨D,C⟩:=lS.1 m
  exact mK
 ·exact hz p u (fun y q o=>M y (lS.2 ⟨q,o⟩))
end
open Go.RowKit
attribute [local go_sem ↓] Go.wp_at_zero Go.wp_at_succ
def kH:Value:= .agg #[ab 0,ab 0,aj 0,.bool false]
def cm (n:Nat):Array Value:=madeCells kH.cells ((n+1)*4)
theorem CZ:(Tryz.prog.info? 196).map (fun i=>(i.zero,i.size,i.bytes))=some (some kH,4,32):=by rfl
def zeroCells:Array Value:= #[aj 0]++(Array.replicate 128 (ab 0)++ #[.map none,.slice none 0 0,ab 0])
theorem iS:zeroCells.size=132:=by unfold zeroCells;simp
def Lq (w:World):(zeroValue 177).run Tryz.prog w= .ok (.agg zeroCells) w:=by kernel_rfl
theorem lP (n k:Nat) (h:k<(n+1)*4):(cm n)[k]? =some ((#[Value.int .i64 0,ab 0,aj 0,.bool false]:Array Value)[k%4]!):=by
 unfold cm madeCells kH
 simp[Value.cells,h]
def bw (r g n:Nat):Array Value:=(zeroCells.setIfInBounds 129 (.map (some r))).setIfInBounds 130 (.slice (some (ao g)) (n+1) (n+1))
theorem xe (r g n i:Nat) (b:1<=i) (a:i<=128):(bw r g n)[i]? =some (ab 0):=by
 unfold bw
 rw[Array.getElem?_setIfInBounds_ne z_,Array.getElem?_setIfInBounds_ne z_]
 unfold zeroCells
 rw[Array.getElem?_append_right z_,Array.getElem?_append_left y_]
 grind
def Kf (r g n:Nat):(bw r g n)[0]? =some (aj 0):=by
 unfold bw
 rw[Array.getElem?_setIfInBounds_ne z_,Array.getElem?_setIfInBounds_ne z_]
 unfold zeroCells
 simp
def CG (r g n:Nat):(bw r g n)[129]? =some (.map (some r)):=by
 grind[Wh.bw,Wh.iS]
def Dd (r g n:Nat):(bw r g n)[130]? =some (.slice (some (ao g)) (n+1) (n+1)):=by
 grind[Wh.bw,Wh.iS]
def BG (r g n:Nat):(bw r g n)[131]? =some (ab 0):=by
 unfold bw
 rw[Array.getElem?_setIfInBounds_ne z_,Array.getElem?_setIfInBounds_ne z_]
 unfold zeroCells
 simp
def jl (w:World) (n:Nat):
  aH (((w.alloc (.map #[] 0)).alloc (.cells (cm n) 196)).alloc (.cells (bw w.heap.size (w.heap.size+1) n) 177)) (w.heap.size+1+1) (w.heap.size+1) n 0 0 (.map (some w.heap.size)) (fun _=>0) (fun _=>0) (fun _=>0) (fun _=>0) (fun _=>0) (fun _=>false):=by
 have g:w.heap.size+1=(w.alloc (.map #[] 0)).heap.size:=q_
 have f:w.heap.size+1+1=((w.alloc (.map #[] 0)).alloc (.cells (cm n) 196)).heap.size:=q_
 have b: ∀i,(((w.alloc (.map #[] 0)).alloc (.cells (cm n) 196)).alloc (.cells (bw w.heap.size (w.heap.size+1) n) 177)).cell? (af (w.heap.size+1+1) i)=(bw w.heap.size (w.heap.size+1) n)[i]? :=by
  grind[bE]
 have e: ∀i,(((w.alloc (.map #[] 0)).alloc (.cells (cm n) 196)).alloc (.cells (bw w.heap.size (w.heap.size+1) n) 177)).cell? (af (w.heap.size+1) i)=(cm n)[i]? :=by
  intro i
  rw[World.cell?_alloc_lt _ _ _ q_]
  simp
 have d: ∀i,(((w.alloc (.map #[] 0)).alloc (.cells (cm n) 196)).alloc (.cells (bw w.heap.size (w.heap.size+1) n) 177)).frozen? (af (w.heap.size+1+1) i)=false:=by
  grind[cA]
 have c: ∀i,(((w.alloc (.map #[] 0)).alloc (.cells (cm n) 196)).alloc (.cells (bw w.heap.size (w.heap.size+1) n) 177)).frozen? (af (w.heap.size+1) i)=false:=by
  intro i
  rw[World.frozen?_alloc_past _ _ _ q_]
  simp
 refine⟨z_,⟨n+1,by rw[b];exact Dd _ _ _⟩,by rw[b];exact Kf _ _ _,by rw[b];exact CG _ _ _,by rw[b];exact BG _ _ _,fun x a=> ?_,fun x a=> ?_,fun x a=> ?_,fun x a=> ?_,fun x a=> ?_,fun x a=> ?_,d,c⟩
 ·grind[Wh.xe]
 ·grind[Wh.xe]
 ·grind[Wh.lP]
 ·grind[Wh.lP]
 ·grind[Wh.lP]
 grind[Wh.lP]
def cE (t:Nat) (a:t<18446744073709551616) (w:World):
  vS 86 #[aj t] w (aj ((t/64:Nat):Int)):=by
 have hw:IntKind.u64.wrap ((t:Int)/64)=((t/64:Nat):Int):=by rw[IntKind.wrap_u64];omega
 refine ge ?_
 go_wp2
 go_ret
 simp
section
variable {w:World} {b g n a c:Nat} {d:Value} {F L A B E:Nat->Nat} {T:Nat->Bool}
def Dw (h:aH w b g n a c d F L A B E T):
  vS 88 #[ak b] w (aj a):=by
 have e:=h.tn
 clear h
 refine ge ?_
 go_wp2
 go_ret
 simp
end
section
variable {w:World} {b g n a c:Nat} {d:Value} {F L A B E:Nat->Nat} {T:Nat->Bool}
def Cy (h:aH w b g n a c d F L A B E T) (t:Nat) (m:t<18446744073709551616) (o:a<=t) (i:t/64=a/64):
  vQ 197 #[ak b,aj t] w (.agg #[ab (F (t%64):Int),ab (L (t%64):Int)]):=by
 have z:=h.tn
 have y:=h.sf (t%64) z_
 have x:=h.sl (t%64) z_
 have p:=h.cG
 have q: ¬b=w.heap.size:=z_
 have v:(a:Int)<=t:=z_
 have k:=aa (cE t m)
 have f:=cE a z_
 rw[<-i] at f
 have j:=aa f
 have u:(0:Int)<=((t%64:Nat):Int):=z_
 have s:((t%64:Nat):Int)<64:=z_
 clear h f i
 refine ge ?_
 go_wp2
 go_region_held3 (fun l=>l.cell? (ao b)=some (aj a)) (go_keep)
  (first
   | (go_at_call 86;first
     |(refine(k.out _).mono ?_;rintro e r ⟨rfl,hw⟩;subst hw)
     |(refine cS (j.out _) ?_)))
 go_wp2
 simp[bodyPost,results,Tryz.results197,go_sem]
 exact bq.drew
def Ci (h:aH w b g n a c d F L A B E T) (t f l:Nat) (p:t<18446744073709551616) (q:a<=t) (k:t/64=a/64):
  aB 195 #[ak b,aj t,.agg #[ab f,ab l]] w fun e w'=>e=aS #[]/\aH w' b g n a c d (ay F (t%64) f) (ay L (t%64) l) A B E T/\aW b g w w':=by
 have i:t%64<64:=z_
 have H:=h.tn
 have G:=h.sf (t%64) i
 have D:=h.sl (t%64) i
 have C:=h.fb
 have r:=h.cG
 have u: ¬b=w.heap.size:=z_
 have z:(a:Int)<=t:=z_
 have o:=aa (cE t p)
 have j:=cE a z_
 rw[<-k] at j
 have m:=aa j
 have y:(0:Int)<=((t%64:Nat):Int):=z_
 have x:((t%64:Nat):Int)<64:=z_
 have s:=aa h
 clear h j k
 refine ge ?_
 go_wp2
 go_region_held3 (fun w'=>w'.cell? (ao b)=some (aj a)) (go_keep)
  (first
   | (go_at_call 86;first
     |(refine(o.out _).mono ?_;rintro e v ⟨rfl,hw⟩;subst hw)
     |(refine cS (m.out _) ?_)))
 go_wp2
 go_region
 go_wp2
 go_end0
 exact⟨rfl,((((s.out.dJ (t%64) i f).rA (t%64) i l).alloc _).drew).drew,(((((aW.refl b g w).set _ _ (Or.inl rfl)).set _ _ (Or.inl rfl)).alloc _).drew).drew⟩
end
def AU (k:Nat) (h:k<18446744073709551616):(Lit.int .u64 (k:Int)).wf=true:=by
 simp[Lit.wf,IntKind.min,IntKind.max,IntKind.bits,IntKind.signed]
 omega
section
variable {w:World} {b g c n nw d s:Nat} {F L A B E:Nat->Nat} {T:Nat->Bool} {a:Int->Option (Nat×Nat)}
def Hm (h:aH w b g n nw d (.map (some c)) F L A B E T) (l:bU w c a s) (t:Nat) (k:t<18446744073709551616) (q:nw<18446744073709551616):
  vQ 197 #[ak b,aj t] w (.agg #[ab ((lK nw F L a (max t nw)).1:Int),ab ((lK nw F L a (max t nw)).2:Int)]):=by
 by_cases j:nw<=t
 ·rw[Nat.max_eq_left j]
  by_cases f:t/64=nw/64
  ·unfold lK
   rw[if_pos f]
   exact Cy h t k j f
  ·unfold lK
   rw[if_neg f]
   have D:=h.tn
   have C:=h.tm
   have o:=h.cG
   have u: ¬b=w.heap.size:=z_
   have m:(nw:Int)<=t:=z_
   have p:=aa (cE t k)
   have i:=aa (cE nw q)
   have x: ¬((t/64:Nat):Int)=((nw/64:Nat):Int):=z_
   have y:=l.look (t:Int) (AU t k)
   have r:=(l.block (w':=(w.alloc (.cells #[ab 0,ab 0] 174)).drew) (zU0 _ _ _ l.lt)).look (t:Int) (AU t k)
   generalize (a (t:Int)).getD (0,0)=z at*
   generalize ((t/64:Nat):Int)=J at*
   generalize ((nw/64:Nat):Int)=I at*
   clear h f
   refine ge ?_
   go_wp2
   go_region_held3 (fun w'=>w'.cell? (ao b)=some (aj nw)) (go_keep)
    (first
     | (go_at_call 86;first
       |(refine(p.out _).mono ?_;rintro e v ⟨rfl,hw⟩;subst hw)
       |(refine(i.out _).mono ?_;rintro e v ⟨rfl,hw⟩;subst hw)))
   go_wp2
   simp[bodyPost,results,Tryz.results197,go_sem]
   exact bq.drew
 ·rw[Nat.max_eq_right z_]
  unfold lK
  rw[if_pos rfl]
  have D:=h.tn
  have C:=h.sf (nw%64) (Nat.mod_lt _ x_)
  have M:=h.sl (nw%64) (Nat.mod_lt _ x_)
  have o:=h.cG
  have u: ¬b=w.heap.size:=z_
  have m:(t:Int)<=nw:=z_
  have i:=aa (cE nw q)
  have H:(0:Int)<=((nw%64:Nat):Int):=z_
  have G:((nw%64:Nat):Int)<64:=z_
  clear h l
  refine ge ?_
  go_wp2
  go_region_held3 (fun w'=>w'.cell? (ao b)=some (aj nw)) (go_keep)
   (first
    |(go_at_call 86;refine cS (i.out _) ?_))
  go_wp2
  simp[bodyPost,results,Tryz.results197,go_sem]
  exact bq.drew
end
section
variable {S b:Nat->Prop} {w w' a:World}
def _root_.Go.Proofs.YtnmhcgpnhlhcgaaGreatDoor.Fr.jS {c g:Nat} (h:aW c g w w') (j:S c) (i:S g):Fr S w w':=⟨h.os,h.tape,h.output,h.size,fun k f d=>h.block k f (fun e=>d (by rw[e];exact j)) (fun e=>d (by rw[e];exact i))⟩
def _root_.Go.Proofs.YtnmhcgpnhlhcgaaGreatDoor.Fr.B5 {k:Nat} (h:w.grownBy w' (some k)) (d:S k):Fr S w w':=⟨h.os,h.tape,h.output,h.size,fun j f c=>h.block j f (fun e=>c (by injection e with e;rw[e];exact d))⟩
end
def fL: ∀{l m:List Int},l.Nodup->(∀x∈l,x∈m)->l.length<=m.length
 |[],_,_,_=>by simp
 |a::l,m,d,b=>by
  obtain⟨g,f⟩:=yV0.1 d
  have h:a∈m:=b a q_
  have:=fL (l:=l) (m:=m.erase a) f (fun x c=>(List.mem_erase_of_ne (fun e=>g y_)).2 (b x (by simp[c])))
  grind
def Pg:Lit->Int
 | .int _ i=>i
 |_=>0
def bU.size_le {w:World} {A s:Nat} {f:Int->Option (Nat×Nat)} (h:bU w A f s) (r:List Int) (C: ∀i,(f i).isSome=true->i∈r):s<=r.length:=by
 obtain⟨D,v,G,L,F⟩:=h
 have b: ∀c,D= .map c-> ∀p∈c,∃i,p.1=Lit.int .u64 i:=by
  obtain⟨z,o,J,H,I,E⟩:=v
  intro c e p g
  rw[E] at e
  injection e with e
  rw[<-e] at g
  obtain⟨x,B,rfl⟩:=List.mem_map.1 (mem_sorted.1 g)
  obtain⟨y,t⟩:=H.reads x B
  rw[WideElems.rg_of t]
  obtain⟨i,_,n,_⟩:=Maps.keyOf_int_inv Tryz.underlying25 (WideElems.rd_key t)
  grind
 obtain⟨c,rfl,g,u⟩:=v.entries yv
 have m:=b c rfl
 rw[<-F]
 show c.length<=_
 rw[<-List.length_map (f:=fun p:Lit×DataW Unit=>Pg p.1)]
 refine fL ?_ ?_
 ·rw[List.Nodup,List.pairwise_map]
  refine List.Pairwise.imp_of_mem ?_ g
  intro p q a k l e
  obtain⟨i,d⟩:=m p a
  obtain⟨j,n⟩:=m q k
  rw[d,n] at e
  exact l (by rw[d,n,show i=j from e])
 ·intro i hi
  obtain⟨p,a,rfl⟩:=List.mem_map.1 hi
  obtain⟨j,d⟩:=m p a
  refine C _ ?_
  rw[d]
  show(f j).isSome=true
  rw[<-G j]
  exact List.any_eq_true.2 ⟨p,a,by rw[d];exact WideAt.sameKey_self trivial⟩
def bU.store {w:World} {d s:Nat} {f:Int->Option (Nat×Nat)} (h:bU w d f s) (p:s<maxLen) (i:Int) (c:Nat×Nat) (hi:(Lit.int .u64 i).wf=true):
  ∃b,(Instr.mapUpdate 171 (.map (some d)) (.int .u64 i) (.agg #[.int .i64 c.1,.int .i64 c.2])).run Tryz.prog w= .ok () b/\(∃l,bU b d (dJ f i (some c)) l)/\w.grownBy b (some d):=by
 obtain⟨D,g,r,q,v⟩:=h
 obtain⟨b,o,n,m⟩:=g.store yv (t:=171) (e:=174) Tryz.underlying171 p (yy i hi) (KC (c.1:Int) (c.2:Int))
 refine⟨b,o,⟨Maps.size (D.put (.int .u64 i) (.agg [.lit (.int .i64 c.1),.lit (.int .i64 c.2)])),D.put (.int .u64 i) (.agg [.lit (.int .i64 c.1),.lit (.int .i64 c.2)]),tight n rfl,fun j=> ?_,fun j u k a=> ?_,rfl⟩,World.mapTurned.grown m⟩
 ·unfold dJ
  by_cases e:j=i
  ·subst e
   rw[if_pos rfl,Maps.has_put_same g.isMap (kD _)]
   rfl
  ·rw[if_neg e,Maps.has_put_other (nK e),r j]
 ·unfold dJ at a
  by_cases e:j=i
  ·subst e
   rw[if_pos rfl] at a
   injection a with a
   rw[Maps.atKey_put_same g.isMap (kD _),a]
  ·rw[if_neg e] at a
   rw[Maps.atKey_put_other (nK e)]
   exact q j u k a
section
variable {w:World} {b g a n nw c s:Nat} {F L A B E:Nat->Nat} {T:Nat->Bool} {fr:Int->Option (Nat×Nat)}
def O3 (b g a:Nat):Nat->Prop:=fun k=>k=b\/k=g\/k=a
def Jl (h:aH w b g n nw c (.map (some a)) F L A B E T) (q:bU w a fr s) (v:b≠a) (u:g≠a) (Y:s<maxLen) (t f l:Nat) (I:t<18446744073709551616) (Q:nw<18446744073709551616):
  aB 195 #[ak b,aj t,.agg #[ab f,ab l]] w fun e w'=>e=aS #[]/\aH w' b g n nw c (.map (some a)) (mU nw F (max t nw) f) (mU nw L (max t nw) l) A B E T/\(∃W,bU w' a (lX nw fr (max t nw) f l) W)/\Fr (O3 b g a) w w':=by
 by_cases C:nw<=t
 ·rw[Nat.max_eq_left C]
  unfold mU lX
  by_cases i:t/64=nw/64
  ·rw[if_pos i,if_pos i,if_pos i]
   refine(Ci h t f l I C i).mono ?_
   rintro e w' ⟨rfl,z,P⟩
   exact⟨rfl,z,⟨s,q.block (P.block a q.lt (fun e=>v e.symm) (fun e=>u e.symm))⟩,Fr.jS P (.inl rfl) (.inr (.inl rfl))⟩
  ·rw[if_neg i,if_neg i,if_neg i]
   have e0:=h.tn
   have e1:=h.tm
   have O:=h.cG
   have V: ¬b=w.heap.size:=z_
   have J:(nw:Int)<=t:=z_
   have D:=aa (cE t I)
   have p:=aa (cE nw Q)
   have Z: ¬((t/64:Nat):Int)=((nw/64:Nat):Int):=z_
   have G:=aa (fun o=>q.block (w':=(w.alloc o).drew) (zU0 _ _ _ q.lt))
   have U:=aa h
   have R:=q.lt
   have r:Hid (∀o w1,(w.alloc o).drew.grownBy w1 (some a)->aH w1 b g n nw c (.map (some a)) F L A B E T/\Fr (O3 b g a) w w1):=fun o w1 M=>by
    have hf:Fr (O3 b g a) (w.alloc o).drew w1:=Fr.B5 M (.inr (.inr rfl))
    have z:=(h.alloc o).drew
    refine⟨z.kept (M.block b z.cG (fun e=>v y_)) (M.block g z.dO (fun e=>u y_)),(((Fr.refl _ w).alloc o).drew).trans hf⟩
   have y:=AU t I
   generalize ((t/64:Nat):Int)=q1 at*
   generalize ((nw/64:Nat):Int)=q2 at*
   clear h i q
   by_cases m:f=0
   ·rw[if_pos m]
    have N:(f:Int)=0:=z_
    clear m
    refine ge ?_
    go_wp2
    go_region_held3 (fun w'=>w'.cell? (ao b)=some (aj nw)) (go_keep)
     (first
      | (go_at_call 86;first
        |(refine(D.out _).mono ?_;rintro e w1 ⟨rfl,hw⟩;subst hw)
        |(refine(p.out _).mono ?_;rintro e w1 ⟨rfl,hw⟩;subst hw)))
    go_wp2_with (at_delete;refine dw rfl _ _ rfl (by exact G.out _) (t:Int) y rfl rfl ?_;intro w1 j d;have x:=aa j;have H:=aa (r.out _ _ d);clear j d)
    go_end0
    exact⟨rfl,H.out.1,⟨_,x.out⟩,H.out.2⟩
   ·rw[if_neg m]
    have N: ¬(f:Int)=0:=z_
    clear m
    refine ge ?_
    go_wp2
    go_region_held3 (fun w'=>w'.cell? (ao b)=some (aj nw)) (go_keep)
     (first
      | (go_at_call 86;first
        |(refine(D.out _).mono ?_;rintro e w1 ⟨rfl,hw⟩;subst hw)
        |(refine(p.out _).mono ?_;rintro e w1 ⟨rfl,hw⟩;subst hw)))
    obtain⟨w1,X,j,d⟩:=(G.out (.cells #[ab f,ab l] 174)).block (w':=((w.alloc (.cells #[ab f,ab l] 174)).drew).drew) rfl|>.store Y (t:Int) (f,l) y
    have x:=aa j
    have H:=aa (r.out _ _ (show(w.alloc (.cells #[ab f,ab l] 174)).drew.grownBy w1 (some a) from⟨d.os,d.tape,d.output,d.size,d.block⟩))
    clear j d
    go_wp2
    go_region
    go_wp2
    go_end0
    exact⟨rfl,H.out.1,x.out,H.out.2⟩
 ·rw[Nat.max_eq_right z_]
  unfold mU lX
  rw[if_pos rfl,if_pos rfl,if_pos rfl]
  have k:nw%64<64:=Nat.mod_lt _ x_
  have e0:=h.tn
  have e1:=h.sf (nw%64) k
  have e2:=h.sl (nw%64) k
  have fb:=h.fb
  have O:=h.cG
  have V: ¬b=w.heap.size:=z_
  have J:(t:Int)<=nw:=z_
  have p:=aa (cE nw Q)
  have r1:(0:Int)<=((nw%64:Nat):Int):=z_
  have r2:((nw%64:Nat):Int)<64:=z_
  have U:=aa h
  have G:=aa q
  clear h q
  refine ge ?_
  go_wp2
  go_region_held3 (fun w'=>w'.cell? (ao b)=some (aj nw)) (go_keep)
   (first
    |(go_at_call 86;refine cS (p.out _) ?_))
  go_wp2
  go_region
  go_wp2
  go_end0
  have S:aW b g w _:=(((((aW.refl b g w).set (af b (1+nw%64*2)) (ab f) (Or.inl rfl)).set (af b (1+nw%64*2+1)) (ab l) (Or.inl rfl)).alloc (.cells #[ab f,ab l] 174)).drew).drew
  exact⟨rfl,((((U.out.dJ (nw%64) k f).rA (nw%64) k l).alloc _).drew).drew,⟨s,G.out.block (S.block a G.out.lt (fun e=>v e.symm) (fun e=>u e.symm))⟩,Fr.jS S (.inl rfl) (.inr (.inl rfl))⟩
end
def pos:List Nat->Nat->Nat
 |[],_=>0
 |y::ys,v=>if y=v then 1 else if pos ys v=0 then 0 else pos ys v+1
def lN: ∀(R S:List Nat) (y:Nat),(R++y::S).Nodup->pos (R++y::S) y=R.length+1
 |[],S,y,_=>by simp[pos]
 |z::R,S,y,h=>by
  obtain⟨b,a⟩:=yV0.1 h
  have hz:z≠y:=fun e=>b y_
  show(if z=y then 1 else if pos (R++y::S) y=0 then 0 else pos (R++y::S) y+1)=_
  rw[if_neg hz,lN R S y a,if_neg z_]
  simp
def AW: ∀(R:List Nat) (y:Nat),y ∉ R->pos R y=0
 |[],_,_=>rfl
 |z::R,y,h=>by
  have a:z≠y:=fun e=>h (by simp[e])
  show(if z=y then 1 else if pos R y=0 then 0 else pos R y+1)=0
  rw[if_neg a,AW R y y_,if_pos rfl]
def lz (l:List Nat):Nat:=l.getLastD 0
def hz (l:List Nat):Nat:=l.headD 0
def Bw (R:List Nat) (y d:Nat):(R++[y]).getLastD d=y:=q_
section
variable {w:World} {b g n c a f l x t:Nat} {d:Value} {F L A B E:Nat->Nat} {T:Nat->Bool} {P Q:List Nat}
def F3 (h:aH w b g n c a d F L A B E T) (hL:oP A B f l (P++Q)) (hP: ∀p∈P,E p<=t) (hQ: ∀q∈Q,t<E q) (h0: ∀p∈P++Q,p≠0/\p<=n) (m:(P++Q).Nodup) (S:x<=n) (a4:x ∉ P++Q)
  {f' l':Nat} {A' B':Nat->Nat} (a8:f'=if lz P=0 then x else f) (a6:l'=if hz Q=0 then x else l) (b4:A'=fv (ay A x (lz P)) (hz Q) x) (b3:B'=fv (ay B x (hz Q)) (lz P) x):
  aB 196 #[ak b,.agg #[ab f,ab l],ab x,aj t] w fun e w'=>
   e= .returned (.agg #[ab f',ab l'])/\aH w' b g n c a d F L A' B' (ay E x t) (ay T x true)/\aW b g w w':=by
 have J:=aa a8
 have I:=aa a6
 have C:=aa b4
 have v:=aa b3
 clear a8 a6 b4 b3
 obtain⟨cp,e0⟩:=h.en
 have n0:=h.ea x S;have n1:=h.eb x S;have n2:=h.ee x S;have n3:=h.et x S
 have fg:=h.fg
 have d2:=h.cG
 have d1:=h.dO
 have y1: ¬b=w.heap.size:=z_
 have y2: ¬g=w.heap.size:=z_
 have y3: ¬b=w.heap.size+1:=z_
 have y4: ¬g=w.heap.size+1:=z_
 have xl:x<n+1:=z_
 have HR:=aa h
 have HL:=aa hL
 have HP:=aa hP
 have HQ:=aa hQ
 have H0:=aa h0
 have HN:=aa m
 have HX:=aa a4
 have a5:l=lz (P++Q):=hL.l
 have b7:=aa a5
 clear h hL hP hQ h0 m a4 a5
 refine ge ?_
 go_wp2
 go_loopw [9,10] (fun j i wr=> ∃Q1 Q2,Q=Q1++Q2/\j=ab ((lz (P++Q1):Nat):Int)/\i=ab ((hz Q2:Nat):Int)/\wr=(w.alloc (.cells #[ab f,ab l] 174)).alloc (.cells #[ab 0,ab 0] 174)) (fun j _ _=>pos (P++Q) (intOf j).toNat)
 case atStart=>exact⟨Q,[],q_,by rw[<-b7.out],rfl,rfl⟩
 case round=>
  obtain⟨Q1,Q2,hq,rfl,rfl,rfl⟩:=hrel
  rcases Q1.eq_nil_or_concat with rfl|⟨R,y,rfl⟩
  ·obtain rfl:Q=Q2:=by grind
   clear hq
   rw[List.append_nil]
   have W:lz P≠0->lz P∈P:=wW
   have a7:hz Q≠0->hz Q∈Q:=head_mem
   have HE:Hid (lz P≠0->lz P<=n/\E (lz P)<=t/\lz P≠x):=fun q=>⟨(H0.out _ (List.mem_append_left _ (W q))).2,HP.out _ (W q),fun e=>HX.out y_⟩
   have HF:Hid (hz Q≠0->hz Q<=n/\hz Q≠x):=fun q=>⟨(H0.out _ (List.mem_append_right _ (a7 q))).2,fun e=>HX.out y_⟩
   clear HL HP HQ H0 HN HX b7 W a7
   obtain⟨ah,b0⟩: ∃ah,lz P=ah:=⟨_,rfl⟩
   obtain⟨be,a9⟩: ∃be,hz Q=be:=⟨_,rfl⟩
   rw[b0] at HE J C v|-
   rw[a9] at HF I C v|-
   clear b0 a9
   obtain⟨Z,H⟩: ∃Z,Z=(((w.setCell (af g (x*4)) (ab ah)).setCell (af g (x*4+1)) (ab be)).setCell (af g (x*4+2)) (aj t)).setCell (af g (x*4+3)) (.bool true):=⟨_,rfl⟩
   have k:Hid (aH Z b g n c a d F L (ay A x ah) (ay B x be) (ay E x t) (ay T x true)):=by rw[H];exact(((HR.out.gk x S ah).gd x S be).Me x S t).nX x S true
   have HO:Hid (aW b g w Z):=by rw[H];exact((((aW.refl b g w).set _ _ (Or.inr rfl)).set _ _ (Or.inr rfl)).set _ _ (Or.inr rfl)).set _ _ (Or.inr rfl)
   have HS:Hid (Z.heap.size=w.heap.size):=by rw[H];show _=_;simp
   have N:=aa H
   clear H
   have ht:ah≠0-> ¬(t:Int)<(E ah:Int):=fun q=>by have:=(HE.out q).2.1;omega
   have HT:=aa ht
   clear ht
   by_cases X:ah=0
   ·subst X
    go_upto_region 5 with fail
    have U:Z=(((w.setCell (af g (x*4)) (ab 0)).setCell (af g (x*4+1)) (ab be)).setCell (af g (x*4+2)) (aj t)).setCell (af g (x*4+3)) (.bool true):=N.out
    rw[<-U]
    clear U
    have D:=HS.out
    have b5:=k.out.fg
    obtain⟨c5,b6⟩:=k.out.en
    clear HE N n0 n1 n2 n3 e0 fg
    by_cases M:be=0
    ·subst M
     clear HF
     go_wp2
     have r:=J.out
     have o:=I.out
     have u:=C.out
     have s:=v.out
     simp only[fv,if_true,if_pos rfl,reduceIte] at r o u s
     rw[r,o,u,s]
     clear r o u s
     simp[bodyPost,results,Tryz.results196,go_sem,fv,D]
     exact⟨(k.out.alloc _).alloc _,(HO.out.alloc _).alloc _⟩
    ·obtain⟨b1,b2⟩:=HF.out M
     have c0:=k.out.ea be b1
     have c4: ¬(be:Int)=0:=z_
     have bl:be<n+1:=z_
     clear HF
     go_wp2
     have r:=J.out
     have o:=I.out
     have u:=C.out
     have s:=v.out
     simp only[fv,if_neg M,reduceIte] at r o u s
     rw[r,o,u,s]
     clear r o u s
     simp[bodyPost,results,Tryz.results196,go_sem,fv,M,D]
     exact⟨((k.out.gk be b1 x).alloc _).alloc _,((HO.out.set _ _ (Or.inr rfl)).alloc _).alloc _⟩
   ·obtain⟨a1,a2,a3⟩:=HE.out X
    have c2:=HR.out.ee ah a1
    have d3: ¬(ah:Int)=0:=z_
    have al:ah<n+1:=z_
    have ht:=HT.out X
    clear HE HT
    go_upto_region 5 with fail
    rw[<-N.out]
    have D:=HS.out
    have b5:=k.out.fg
    have c1:=k.out.eb ah a1
    obtain⟨c5,b6⟩:=k.out.en
    clear N n0 n1 n2 n3 e0 fg c2
    by_cases M:be=0
    ·subst M
     clear HF
     go_wp2
     have r:=J.out
     have o:=I.out
     have u:=C.out
     have s:=v.out
     simp only[fv,if_neg X,reduceIte] at r o u s
     rw[r,o,u,s]
     clear r o u s
     simp[bodyPost,results,Tryz.results196,go_sem,fv,X,D]
     exact⟨((k.out.gd ah a1 x).alloc _).alloc _,((HO.out.set _ _ (Or.inr rfl)).alloc _).alloc _⟩
    ·obtain⟨b1,b2⟩:=HF.out M
     obtain⟨W5,G⟩: ∃W5,W5=Z.setCell (af g (ah*4+1)) (ab x):=⟨_,rfl⟩
     have O:Hid (aH W5 b g n c a d F L (ay A x ah) (ay (ay B x be) ah x) (ay E x t) (ay T x true)):=by rw[G];exact k.out.gd ah a1 x
     have c7:Hid (aW b g w W5):=by rw[G];exact HO.out.set _ _ (Or.inr rfl)
     have c6:Hid (W5.heap.size=w.heap.size):=by rw[G];show _=_;simp_all
     have c4: ¬(be:Int)=0:=z_
     have bl:be<n+1:=z_
     have b8:=aa G
     clear HF G
     go_upto_region 8 with fail
     rw[<-b8.out]
     have c3:=c6.out
     have d4:=O.out.fg
     have c0:=O.out.ea be b1
     obtain⟨d6,d5⟩:=O.out.en
     clear b8 b5 c1 b6 D
     go_wp2
     have r:=J.out
     have o:=I.out
     have u:=C.out
     have s:=v.out
     simp only[fv,if_neg X,if_neg M,reduceIte] at r o u s
     rw[r,o,u,s]
     clear r o u s
     simp[bodyPost,results,Tryz.results196,go_sem,fv,X,M,c3]
     exact⟨((O.out.gk be b1 x).alloc _).alloc _,((c7.out.set _ _ (Or.inr rfl)).alloc _).alloc _⟩
  ·rw[List.concat_eq_append] at hq|-
   have e1:lz (P++(R++[y]))=y:=by unfold lz;simp
   have Y:P++Q=(P++R)++y::Q2:=y_
   have V:y∈Q:=y_
   have hy:=H0.out y (List.mem_append_right _ V)
   have ht:=HQ.out y V
   have hl:=HL.out
   have m:=HN.out
   rw[Y] at hl m
   have hA:A y=lz (P++R):=hl.P7.1
   have HM:Hid (pos (P++Q) (lz (P++R))<pos (P++Q) y):=by
    show _<_
    unfold lz
    rw[Y,lN _ _ _ m]
    rcases(P++R).eq_nil_or_concat with e|⟨R',z,e⟩<;>(try rw[List.concat_eq_append] at e)
    ·rw[e,AW _ _ (fun q=>(H0.out 0 y_).1 rfl)]
     simp
    ·rw[e,Bw]
     have e2:(R'++[z])++y::Q2=R'++z::(y::Q2):=q_
     rw[e] at m
     rw[e2] at m|-
     rw[lN _ _ _ m]
     simp
   have b9:Hid (Q=R++(y::Q2)):=by show _=_;grind
   have a0:=HR.out.ea y hy.2
   have c8:=HR.out.ee y hy.2
   rw[hA] at a0
   have c9: ¬(y:Int)=0:=z_
   have yl:y<n+1:=z_
   have d0:(t:Int)<(E y:Int):=z_
   rw[e1]
   clear e1 Y V hy ht hl m hA hq
   obtain⟨z,hz⟩: ∃z,lz (P++R)=z:=⟨_,rfl⟩
   rw[hz] at a0 HM
   have HZ:=aa hz
   clear hz
   go_wp2
   go_roundw
   case rel=>exact⟨R,y::Q2,b9.out,by rw[HZ.out],rfl,trivial⟩
   assumption
end
def uF (w:World) (b g a n nw:Nat) (S:List It):Prop:=
 ∃(c:Nat) (F L:Nat->Nat) (fr:Int->Option (Nat×Nat)) (A B E:Nat->Nat) (T:Nat->Bool) (s:Nat),aH w b g n nw c (.map (some a)) F L A B E T/\bU w a fr s/\Inv n nw c F L fr A B E T S/\b≠a/\g≠a/\n<=1024
section
variable {w w':World} {b g a n nw c s:Nat} {F L A B E:Nat->Nat} {T:Nat->Bool} {fr:Int->Option (Nat×Nat)} {S:List It}
def Inv.cL (h:Inv n nw c F L fr A B E T S):S.length<=n:=by
 have:=fL (l:=S.map (fun x=>(x.i:Int))) (m:=(List.range n).map (fun (k:Nat)=>(k:Int))) (by
  have f:=h.nd
  grind) (fun x e=>by
   obtain⟨y,d,rfl⟩:=List.mem_map.1 e
   exact List.mem_map.2 ⟨y.i,List.mem_range.2 (h.lt y d),rfl⟩)
 grind
def Inv.map_le (h:Inv n nw c F L fr A B E T S) (j:bU w a fr s):s<=S.length:=by
 have:=j.size_le (S.map (fun x=>(ky nw x:Int))) (fun i hi=>by
  obtain⟨k,rfl,m⟩:=h.out i hi
  rcases h.fM k m with ⟨e,_⟩|⟨f,l,_,e,_⟩
  ·grind
  ·obtain⟨x,d⟩:=List.exists_mem_of_ne_nil _ e
   obtain⟨p,o⟩:=dV.1 d
   grind)
 grind
def uF.frame {Z:Nat->Prop} (h:uF w b g a n nw S) (e:Fr Z w w') (f: ∀k,O3 b g a k-> ¬Z k):uF w' b g a n nw S:=by
 obtain⟨c,F,L,fr,A,B,E,T,s,d,i,hi,r⟩:=h
 exact⟨c,F,L,fr,A,B,E,T,s,d.kept (e.block b d.cG (f b (.inl rfl))) (e.block g d.dO (f g (.inr (.inl rfl)))),i.block (e.block a i.lt (f a (.inr (.inr rfl)))),hi,r⟩
def uF.facts (h:uF w b g a n nw S):lB S/\(S.map (·.i)).Nodup/\(∀x∈S,x.i<n)/\(∀x∈S,x.t<18446744073709551616)/\nw<18446744073709551616/\S.length<=n/\n<=1024:=by
 obtain⟨c,F,L,fr,A,B,E,T,s,e,f,hi,_,_,d⟩:=h
 exact⟨hi.srt,hi.nd,hi.lt,hi.tm,hi.hw,hi.cL,d⟩
def ui (S:List It) (d:Int):Option Nat:=(S.find? (fun x=>(x.i:Int)==d)).map (·.t)
def fQ (n:Nat) (S:List It) (d:Int):Int:=if d<0\/(n:Int)<=d then 2 else if (ui S d).isSome then 5 else 0
def kO (n:Nat) (S:List It) (d:Int) (t:Nat):List It:=if fQ n S d=0 then ins ⟨d.toNat,t⟩ S else S
def CT {id t:Nat} (k:(S.map (·.i)).Nodup):ui S (id:Int)=some t↔(⟨id,t⟩:It)∈S:=by
 unfold ui
 rw[Option.map_eq_some_iff]
 constructor
 ·rintro⟨x,f,rfl⟩
  have e:=List.mem_of_find?_eq_some f
  have d:=List.find?_some f
  simp at d
  have l:x.i=id:=z_
  rw[<-l]
  exact e
 ·intro h
  cases j:S.find? (fun x=>(x.i:Int)==(id:Int)) with
  |none=>
   grind
  |some y=>
   have e:=List.mem_of_find?_eq_some j
   have d:=List.find?_some j
   simp at d
   have:=GF k e h (show y.i=id by omega)
   grind
def nY {id:Nat}:ui S (id:Int)=none↔ ∀x∈S,x.i≠id:=by
 grind[Wh.ui,Option.map_eq_none_iff]
theorem Inv.there (h:Inv n nw c F L fr A B E T S) (d:Nat) (j:d<n):T (d+1)=(ui S (d:Int)).isSome/\E (d+1)=(ui S (d:Int)).getD 0:=by
 cases i:ui S (d:Int) with
 |none=>
  have:=h.zer (d+1) z_ (fun x f e=>nY.1 i x f z_)
  grind
 |some t=>
  have:=h.jB _ ((CT h.nd).1 i)
  grind
theorem df (h:aH w b g n nw c (.map (some a)) F L A B E T) (d:Int) (e:n<=1024):
  vS 194 #[ak b,ab d] w (.bool (decide (0<=d)&&decide (d<(n:Int)))):=by
 obtain⟨l,k⟩:=h.en
 clear h
 by_cases j:0<=d
 ·by_cases i:d<(n:Int)
  ·refine ge ?_
   go_wp2
   go_ret
   simp_all
  ·refine ge ?_
   go_wp2
   go_ret
   simp_all
 ·have f:d<0:=by omega
  refine ge ?_
  go_wp2
  go_ret
  exact⟨by simp;omega,rfl⟩
def Nn (h:uF w b g a n nw S) (l:Int) (t:Nat) (ht:t<18446744073709551616):
  aB 169 #[ak b,ab l,aj t] w fun e w'=>e= .returned (ab (fQ n S l))/\uF w' b g a n nw (kO n S l t)/\Fr (O3 b g a) w w':=by
 have hW:=h
 obtain⟨c,F,L,fr,A,B,E,T,s,f,U,hi,J,a3,hn⟩:=h
 have d:=df f l hn
 by_cases V:l<0\/(n:Int)<=l
 ·have G:fQ n S l=2:=if_pos V
  have D:kO n S l t=S:=if_neg z_
  rw[G,D]
  rw[show(decide (0<=l)&&decide (l<(n:Int)))=false by grind] at d
  have HM:=aa d
  have HW:=aa hW
  clear d hW f U hi G D V
  refine ge ?_
  go_wp2_with (go_at_call 194;refine cS HM.out ?_)
  go_ret
  exact⟨rfl,HW.out,Fr.refl _ _⟩
 ·obtain⟨i,rfl⟩:=yY0 (show 0<=l by omega)
  have a2:i<n:=z_
  rw[show(decide (0<=(i:Int))&&decide ((i:Int)<n))=true by grind] at d
  obtain⟨m,_⟩:=hi.there i a2
  have P:=f.et (i+1) z_
  rw[m] at P
  obtain⟨cp,e0⟩:=f.en
  cases Y:ui S (i:Int) with
  |some t0=>
   have G:fQ n S (i:Int)=5:=by unfold fQ;grind
   have D:kO n S (i:Int) t=S:=if_neg z_
   rw[G,D]
   rw[Y] at P
   have a8:w.cell? (af g ((i+1)*4+3))=some (.bool true):=P
   have HM:=aa d
   have HW:=aa hW
   clear d hW f U hi G D V m P Y
   refine ge ?_
   go_wp2_with (go_at_call 194;refine cS HM.out ?_)
   go_ret
   exact⟨rfl,HW.out,Fr.refl _ _⟩
  |none=>
   have G:fQ n S (i:Int)=0:=by unfold fQ;grind
   have D:kO n S (i:Int) t=ins ⟨i,t⟩ S:=by unfold kO;grind
   rw[G,D]
   rw[Y] at P m
   have a8:w.cell? (af g ((i+1)*4+3))=some (.bool false):=P
   have hI:=hi.set i t a2 m ht
   have j:=hi.Gn t
   have r:=hi.list (max t nw) z_
   have a0:=hi.cL
   have a6:=hi.map_le U
   have a7:=hi.hc
   rw[j] at r
   have o: ∀p∈pre nw S t++qQ nw S t,∃y∈S,y.i+1=p:=fun p v=>by
    rw[<-j] at v
    obtain⟨y,z,rfl⟩:=cl.1 v
    exact⟨y,(dV.1 z).1,rfl⟩
   have hP: ∀p∈pre nw S t,E p<=t:=fun p v=>by
    unfold pre at v
    obtain⟨y,z,rfl⟩:=cl.1 v
    obtain⟨h1,h2⟩:=List.mem_filter.1 z
    rw[(hi.jB y (dV.1 h1).1).2]
    grind
   have hQ: ∀p∈qQ nw S t,t<E p:=fun p v=>by
    unfold qQ at v
    obtain⟨y,z,rfl⟩:=cl.1 v
    obtain⟨h1,h2⟩:=List.mem_filter.1 z
    rw[(hi.jB y (dV.1 h1).1).2]
    grind
   have h0: ∀p∈pre nw S t++qQ nw S t,p≠0/\p<=n:=fun p v=>by
    obtain⟨y,z,rfl⟩:=o p v
    have:=hi.lt y z
    omega
   have Z:(pre nw S t++qQ nw S t).Nodup:=by rw[<-j];exact mq (pK hi.nd)
   have X:i+1 ∉ pre nw S t++qQ nw S t:=fun q=>by
    obtain⟨y,z,e⟩:=o _ q
    exact nY.1 Y y z z_
   obtain⟨f',I⟩: ∃f',f'=if (pre nw S t).getLastD 0=0 then i+1 else(lK nw F L fr (max t nw)).1:=⟨_,rfl⟩
   obtain⟨l',H⟩: ∃l',l'=if (qQ nw S t).headD 0=0 then i+1 else(lK nw F L fr (max t nw)).2:=⟨_,rfl⟩
   obtain⟨A',O⟩: ∃A',A'=fv (ay A (i+1) ((pre nw S t).getLastD 0)) ((qQ nw S t).headD 0) (i+1):=⟨_,rfl⟩
   obtain⟨B',N⟩: ∃B',B'=fv (ay B (i+1) ((qQ nw S t).headD 0)) ((pre nw S t).getLastD 0) (i+1):=⟨_,rfl⟩
   have k:=fun W (V:aC w W)=>F3 (x:=i+1) (t:=t) (f.below V) r hP hQ h0 Z z_ X (f':=f') (l':=l') (A':=A') (B':=B') I H O N
   rw[<-I,<-H,<-O,<-N] at hI
   have M:=Hm f U t ht hi.hw
   obtain⟨f0,a4⟩: ∃f0,(lK nw F L fr (max t nw)).1=f0:=⟨_,rfl⟩
   obtain⟨l0,a1⟩: ∃l0,(lK nw F L fr (max t nw)).2=l0:=⟨_,rfl⟩
   rw[a4,a1] at M k
   have u:((i+1:Nat):Int)=(i:Int)+1:=z_
   rw[u] at k
   have a5:=aa k
   have b5:=aa M
   have b6:=aa fun W (h1:aH W b g n nw c (.map (some a)) F L A' B' (ay E (i+1) t) (ay T (i+1) true)) (h2:bU W a fr s)=>Jl h1 h2 J a3 (by unfold maxLen;omega) t f' l' ht hi.hw
   have HM:=aa d
   have HI:=aa hI
   have Q:=aa U
   have b8:c<=1024:=z_
   have b7:IntKind.i64.wrap ((c:Int)+1)=(c:Int)+1:=by simp[IntKind.wrap,IntKind.bits,IntKind.signed];omega
   clear d hW f U hi G D V m P Y hI j r a0 a6 a7 o hP hQ h0 Z X I H O N k M a4 a1 u
   refine ge ?_
   go_wp2_with (first
    |(go_at_call 194;refine cS HM.out ?_)
    |(go_at_call 197;refine cH b5.out fun w1 HB=> ?_)
    |(go_at_call 196;refine(a5.out _ HB.out).mono ?_;rintro e w2 ⟨rfl,f,R⟩;have b0:=aa f;have b4:=aa ((Q.out.block (HB.out.block a Q.out.lt)).block (R.block a (i8 Q.out.lt HB.out.size) z_ z_));have b2:=aa ((Fr.aF HB.out).trans (Fr.jS (S:=O3 b g a) R (.inl rfl) (.inr (.inl rfl))));clear f R)
    |(go_at_call 195;refine(b6.out _ b0.out b4.out).mono ?_;rintro e w3 ⟨rfl,f,C,R⟩;have r2:=f.tc;have r3:=f.fb;have a9:=aa f;have b3:=aa C;have b1:=aa (b2.out.trans R);clear f R C))
   go_ret
   obtain⟨s3,C⟩:=b3.out
   refine⟨rfl,⟨c+1,_,_,_,_,_,_,_,s3,a9.out.xA (c+1),C.block ?_,HI.out,J,a3,hn⟩,b1.out.setCell (.inl rfl) _⟩
   exact zZ0 _ _ _ _ J.symm
def Ln (h:uF w b g a n nw S):
  vS 88 #[ak b] w (aj nw):=by
 obtain⟨c,F,L,fr,A,B,E,T,s,d,j,hi,f,e,i⟩:=h
 exact Dw d
end
def iC {P:Program} (w:World) {f:Array Oper} {c:List Oper} {o:Oper} {a:Act} {Q:Exit->Act->World->Prop} (j:o.guard=none) (s x:Operand) (t:TypeId)
  (r:o.op= .call {callee:= .builtin .append,args:= #[s,x],argTypes:= #[t,t]})
  (d:Nat) (e:TypeId) (i:TypeInfo) (b:Nat) (m:P.underlying t=some (.slice e)) (hi:P.info? e=some i)
  (v:Value) (n:Nat) (k:List Value) (p:a.eval s=v) (g:w.ownsRow d e b v n k) (l:a.eval x= .slice none 0 0)
  (h:wpList P f Q c (a.put o.dst v) w):wpList P f Q (o::c) a w:=by
 refine wpList_plain j fun K u=> ?_
 have q:=run_append_owned_none (P:=P) w d t o.type e i b m hi v n k g
 unfold Oper.wp execOp
 simp only[r,resolve,invoke,builtin,Sem.run_bind,Sem.run_pure,Result.andThen_ok,List.map_toArray,List.map_cons,List.map_nil,p,l,q]
 exact u _ _ h
def bN {w:World} {a:Nat} {e:TypeId} {b:Nat} {v:Value} {n:Nat} {d:List Value} (h:w.ownsRow a e b v n d) {k:Nat} (c:v.ownBlock=some k):a<=k/\k<w.heap.size:=by
 rcases h.2 with ⟨rfl,_⟩|⟨l,g,f,rfl,j,i,_⟩
 ·cases c
 ·simp[Value.ownBlock] at c
  grind
def bJ {w:World} {d:Nat} {e:TypeId} {b:Nat} {v:Value} {n:Nat} {f:List Value} (h:w.ownsRow d e b v n f): ∃a c,v= .slice a n c:=by
 rcases h.2 with ⟨rfl,rfl⟩|⟨j,i,g,rfl,_⟩
 ·simp
 simp
def Eh {w:World} {c a:Nat} {e:TypeId} {b:Nat} {v:Value} {n:Nat} {xs:List Value} (h:w.ownsRow c e b v n xs) (k:a<=c):w.ownsRow a e b v n xs:=by
 refine⟨h.1,?_⟩
 rcases h.2 with j|⟨g,i,f,e,l,d⟩
 ·grind
 ·exact .inr ⟨g,i,f,e,z_,d⟩
def de {w w':World} {b:Nat} {e:TypeId} {a:Nat} {v:Value} {n:Nat} {xs:List Value} (h:w.ownsRow b e a v n xs) (i: ∀k,v.ownBlock=some k->w'.heap[k]? =w.heap[k]?):w'.ownsRow b e a v n xs:=by
 refine⟨h.1,?_⟩
 rcases h.2 with m|⟨g,f,d,rfl,l,j,c⟩
 ·grind
 ·exact .inr ⟨g,f,d,rfl,l,by rw[i g rfl];exact j,c⟩
def nV {w w':World} {b:Nat} {e:TypeId} {a:Nat} {v:Value} {n:Nat} {xs:List Value} (h:w.ownsRow b e a v n xs) (d:aC w w'):w'.ownsRow b e a v n xs:=
 de h (fun k c=>d.block k (bN h c).2)
def dq (w:World) {j:Array Oper} {d:List Oper} {o:Oper} {a:Act} {Q:Exit->Act->World->Prop} (k:o.guard=none) (s x:Operand)
  (F:o.op= .call {callee:= .builtin .append,args:= #[s,x],argTypes:= #[123,123]})
  (b f:Nat) (v u:Value) (n m:Nat) (p l:List Value) (E:a.eval s=v) (c:w.ownsRow b 3 1 v n p) (D:a.eval x=u) (A:w.ownsRow f 3 1 u m l) (J: ∀u∈l,u.oneCell'=true)
  (I:n+m<=100000) (e:b<=w.heap.size)
  (h: ∀q i,i.ownsRow b 3 1 q (n+m) (p++l)->w.grownBy i v.ownBlock->wpList Tryz.prog j Q d (a.put o.dst q) i):wpList Tryz.prog j Q (o::d) a w:=by
 obtain⟨C,hi,y,t,r⟩:=info_parts j4
 rcases A.2 with ⟨rfl,rfl⟩|⟨g,B,L,rfl,_⟩
 ·have z:=List.length_eq_zero_iff.1 (by have:=A.1;omega)
  subst z
  refine iC w k s x 123 F b 3 C 1 q_ hi v n p E c D ?_
  have:=h v w (by simpa using c) ⟨rfl,rfl,rfl,aT,fun _ _ _=>rfl⟩
  exact this
 ·refine wpList_append_own w k s x 123 F b 3 C (ab 0) 1 8 q_ hi y t r rfl x_ v n p E c (ao g) m B l D y_ (A.cells rfl) J (by unfold maxLen;omega) z_ e ?_
  intro q i H G _
  exact h q i H G
def iv (xs:List Nat):List Value:=xs.map (fun (x:Nat)=>Value.int .i64 ((x:Int)-1))
def tD (a:List Nat): ∀u∈iv a,u.oneCell'=true:=fun u b=>by
 obtain⟨x,_,rfl⟩:=List.mem_map.1 b
 rfl
def iU (a ys:List Nat):iv (a++ys)=iv a++iv ys:=by simp[iv]
def wJ (w:World) (x:Value) (t:TypeId): ∀j u,[x][j]? =some u->(w.alloc (.cells #[x] t)).cell? (((ao w.heap.size):Addr).add j)=some u:=by
 intro j u h
 have a:j<1:=by
  grind
 obtain rfl:j=0:=z_
 simp at h
 subst h
 simp[Addr.add]
def fM (xs:List Nat) (v:Nat):Nat:=if v=0 then 0 else xs.length+1-pos xs v
section
variable {w:World} {b g n nw c f l:Nat} {d:Value} {F L A B E:Nat->Nat} {T:Nat->Bool} {a:List Nat}
def E9 (h:aH w b g n nw c d F L A B E T) (O:oP A B f l a) (h0: ∀p∈a,p≠0/\p<=n) (i:a.Nodup) (hn:n<=1024) (Z:a.length<=1024):
  aB 140 #[ak b,.agg #[ab f,ab l]] w fun e w'=>(∃v,e= .returned v/\w'.ownsRow w.heap.size 3 1 v a.length (iv a))/\aC w w':=by
 obtain⟨i0,hi,H,G,D⟩:=info_parts j4
 have N:=h.cG
 have M:=h.dO
 have HR:=aa h
 have HL:=aa O
 have H0:=aa h0
 have HN:=aa i
 have HF:Hid (f=hz a):=O.f
 clear h O h0 i
 refine ge ?_
 go_wp2
 go_loopw [5,6] (fun v s wr=> ∃P Q,a=P++Q/\s=ab ((hz Q:Nat):Int)/\aC w wr/\wr.ownsRow w.heap.size 3 1 v P.length (iv P)) (fun _ s _=>fM a (intOf s).toNat)
 case atStart=>exact⟨[],a,rfl,by rw[<-HF.out],bq,World.ownsRow_nil _ _ _ _⟩
 case round=>
  obtain⟨P,Q,Y,rfl,q,m⟩:=hrel
  obtain⟨av,cv,rfl⟩:=bJ m
  have W:=aa q
  have U:=aa m
  have a1:=q.size
  have C:=aa Y
  clear q m Y
  match Q,C with
  |[],C=>
   have X:a=P:=by rw[C.out];simp
   have HE:Hid (wr.ownsRow w.heap.size 3 1 (.slice av P.length cv) a.length (iv a)):=by rw[X];exact U.out
   clear X
   go_wp2
   go_ret
   exact⟨⟨_,rfl,HE.out⟩,W.out⟩
  |y::Q,C=>
   have u:=C.out
   have I:=H0.out y y_
   have i:=HN.out
   have J:=HL.out
   rw[u] at i J
   have hB:B y=hz Q:=J.P7.2
   have HM:Hid (fM a (hz Q)<fM a y):=by
    show _<_
    rw[u]
    unfold fM
    rw[if_neg I.1,lN _ _ _ i]
    split
    ·simp
    ·rename_i e
     match Q,e,i with
     |[],e,_=>exact absurd rfl e
     |z::Q,e,i=>
      have e2:P++y::z::Q=(P++[y])++z::Q:=q_
      rw[e2] at i|-
      show _-pos _ z<_
      rw[lN _ _ _ i]
      grind
   have HX:Hid (a=(P++[y])++Q):=by show _=_;grind
   have R:=HR.out.eb y I.2
   rw[hB] at R
   obtain⟨cp,e0⟩:=HR.out.en
   have E0:=aa e0
   have E1:=aa R
   have x0: ¬(y:Int)=0:=z_
   have xl:y<n+1:=z_
   have xb:y<=1024:=z_
   have hp:P.length<=1024:=y_
   have a0:IntKind.i64.wrap ((y:Int)-1)=(y:Int)-1:=by simp[IntKind.wrap,IntKind.bits,IntKind.signed];omega
   obtain⟨z,t⟩: ∃z,hz Q=z:=⟨_,rfl⟩
   rw[t] at E1 HM
   have HZ:=aa t
   have x:hz (y::Q)=y:=rfl
   rw[x]
   clear u I i J hB R e0 t x
   go_wp2_with (at_builtin;refine wpList_append_own _ rfl _ _ 123 rfl w.heap.size 3 i0 (ab 0) 1 8 q_ hi H G D rfl x_ (.slice av P.length cv) P.length (iv P) rfl (by exact U.out.alloc _) (ao wr.heap.size) 1 1 [ab ((y:Int)-1)] rfl rfl (wJ _ _ _) (by simp[Value.oneCell']) (by unfold maxLen;omega) z_ (by simp;omega) ?_;intro v' w1 j o _;have r:=(W.out.alloc W.out.size _).grown o (by simp;omega) (fun k hk=>(bN U.out hk).1);have y0:=(r.cell (p:=(af b 130)) N).trans E0.out;have y1:=(r.cell (p:=(af g (y*4+1))) M).trans E1.out;obtain⟨a3,a2,rfl⟩:=bJ j;have S:=aa j;have V:=aa r;clear j o r)
   go_roundw
   case rel=>exact⟨P++[y],Q,HX.out,by rw[HZ.out],V.out,by rw[iU,List.length_append];exact S.out⟩
   assumption
end
def Gk (m:Nat):(Builtin.zeroCells (Value.agg #[ab 0,ab 0]).cells m).toList=List.replicate (m*2) (Value.int .i64 0):=by
 unfold Builtin.zeroCells
 apply List.ext_getElem?
 intro i
 have e:(Value.agg #[ab 0,ab 0]).cells= #[Value.int .i64 0,ab 0]:=rfl
 grind
def je (m:Nat) (F:Nat->Nat):Nat->Nat:=fun s=>if s<m then 0 else F s
section
variable {w:World} {b g n nw a e s:Nat} {c:Value} {F L A B E:Nat->Nat} {T:Nat->Bool} {d:Int->Option (Nat×Nat)} {S:List It}
def Cl (h:aH w b g n nw a c F L A B E T) (m:Nat) (Y:0<m) (X:m<=64): ∃J,(∀O,(Builtin.clear_ #[256] O #[.slice (some ⟨b,1,none⟩) m 64]).run Tryz.prog w= .ok (.tuple #[]) J)/\aH J b g n nw a c (je m F) (je m L) A B E T/\aW b g w J/\J.heap.size=w.heap.size:=by
 have I:(List.replicate (m*2) (Value.int .i64 0)).length=m*2:=q_
 have u: ∀j,j<m*2->(w.cell? ⟨b,1+j,none⟩).isSome=true:=fun j Q=>by
  by_cases f:j%2=0
  ·rw[show 1+j=1+j/2*2 by omega,h.sf (j/2) z_];rfl
  ·rw[show 1+j=1+j/2*2+1 by omega,h.sl (j/2) z_];rfl
 have y: ∀j,j<m*2->(w.setCells b 1 (List.replicate (m*2) (.int .i64 0))).cell? ⟨b,1+j,none⟩=some (.int .i64 0):=fun j Q=>by
  have:=World.cell?_setCells_in b (List.replicate (m*2) (Value.int .i64 0)) 1 w y_ j (by simpa using Q)
  rw[this]
  simp
 have p: ∀o,(o<1\/1+m*2<=o)->(w.setCells b 1 (List.replicate (m*2) (.int .i64 0))).cell? ⟨b,o,none⟩=w.cell? ⟨b,o,none⟩:=fun o W=>World.cell?_setCells_out b _ 1 w ⟨b,o,none⟩ y_
 have i: ∀o,(w.setCells b 1 (List.replicate (m*2) (.int .i64 0))).cell? ⟨g,o,none⟩=w.cell? ⟨g,o,none⟩:=fun o=>World.cell?_setCells_out b _ 1 w ⟨g,o,none⟩ (fun f _=>mK)
 have z: ∀x,(w.setCells b 1 (List.replicate (m*2) (.int .i64 0))).frozen? x=w.frozen? x:=fun x=>World.frozen?_setCells b _ 1 w x
 have C: ∀(t:List Value) (o:Nat) (w:World),(w.setCells b o t).heap.size=w.heap.size:=by
  intro t
  induction t with
  |nil=>intro o w;rfl
  |cons v r N=>intro o w;show((w.setCell ⟨b,o,none⟩ v).setCells b (o+1) r).heap.size=_;rw[N];simp
 have H: ∀(t:List Value) (o:Nat) (M:World),aW b g w M->aW b g w (M.setCells b o t):=by
  intro t
  induction t with
  |nil=>intro o M q;exact q
  |cons v r N=>intro o M q;exact N (o+1) _ (q.set _ _ (Or.inl rfl))
 refine⟨w.setCells b 1 (List.replicate (m*2) (.int .i64 0)),fun O=> ?_,?_,H _ _ _ (aW.refl b g w),C _ _ _⟩
 ·have G:=run_storeCells_cells (P:=Tryz.prog) b 1 (List.replicate (m*2) (.int .i64 0)) 0 w y_ (fun j _=>h.fb _) (fun v U=>by rw[List.eq_of_mem_replicate U];rfl)
  have hz: ∀w,(zeroValue 174).run Tryz.prog w= .ok (.agg #[.int .i64 0,.int .i64 0]) w:=fun w=>by kernel_rfl
  have V:=Gk m
  have D:=G
  clear G y p i z u I C H
  generalize w.setCells b 1 (List.replicate (m*2) (.int .i64 0))=J at*
  generalize List.replicate (m*2) (Value.int .i64 0)=R at*
  obtain⟨m,rfl⟩: ∃k,m=k+1:=⟨m-1,z_⟩
  simp[Builtin.clear_,run_underlying Tryz.underlying256,hz,V,D]
 ·refine⟨h.bg,?_,?_,?_,?_,fun x l=> ?_,fun x l=> ?_,fun x l=> ?_,fun x l=> ?_,fun x l=> ?_,fun x l=> ?_,fun o=> ?_,fun o=> ?_⟩
  ·grind[Wh.aH.en]
  ·grind[Wh.aH.tn]
  ·grind[Wh.aH.tm]
  ·grind[Wh.aH.tc]
  ·unfold je
   by_cases f:x<m
   ·rw[if_pos f,y (x*2) z_];rfl
   ·rw[if_neg f,p (1+x*2) z_];exact h.sf x l
  ·unfold je
   by_cases f:x<m
   ·rw[if_pos f,show 1+x*2+1=1+(x*2+1) by omega,y (x*2+1) z_];rfl
   ·rw[if_neg f,p (1+x*2+1) z_];exact h.sl x l
  ·rw[i];exact h.ea x l
  ·rw[i];exact h.eb x l
  ·rw[i];exact h.ee x l
  ·rw[i];exact h.et x l
  ·rw[z];exact h.fb o
  ·rw[z];exact h.fg o
def xm (h:lB S) (lo m:Nat):(fP nw S lo m).length<=S.length:=by
 rw[uA h]
 grind
def LU (f:List Nat):(iv f).length=f.length:=by simp[iv]
def uO (h:aH w b g n nw a c F L A B E T) (hi:Inv n nw a F L d A B E T S) (hn:n<=1024) (J m:Nat) (ht:J<18446744073709551616) (hm:m=if J/64=nw/64 then J%64+1 else 64):
  aB 85 #[ak b,aj J] w fun f w'=>(∃v,f= .returned v/\w'.ownsRow w.heap.size 3 1 v (fP nw S (nw/64*64) m).length (iv (ai (fP nw S (nw/64*64) m))))/\aH w' b g n nw a c (je m F) (je m L) A B E T/\aW b g w w':=by
 have e0:=h.tn
 have c9:=h.cG
 have c8:=h.dO
 have b1:m<=64:=y_
 have b5:0<m:=y_
 have N:=aa (cE J ht)
 have H:=aa (cE nw hi.hw)
 have HB:=aa fun w1 (hb:aC w w1)=>h.below hb
 have V:=aa hi.cL
 have HU:=aa (fun j=>xm (nw:=nw) hi.srt (nw/64*64) j)
 have O:=aa fun j (hj:j<64) W (hW:aH W b g n nw a c F L A B E T)=>by
  have hl:=hi.slot j hj
  have c7:(fZ nw S (nw/64*64+j)).length<=S.length:=List.length_filter_le _ _
  have:=hi.cL
  have q:=E9 hW hl (fun p hp=>by
   obtain⟨y,hy,rfl⟩:=cl.1 hp
   have:=hi.lt y (dV.1 hy).1
   omega) (mq (pK hi.nd)) hn (by rw[dA];omega)
  rwa [dA] at q
 have z:Hid (∀W v,aC w W->W.ownsRow w.heap.size 3 1 v (fP nw S (nw/64*64) m).length (iv (ai (fP nw S (nw/64*64) m)))-> ∃R,(∀ty,(Builtin.clear_ #[256] ty #[.slice (some (af b 1)) m 64]).run Tryz.prog W= .ok (.tuple #[]) R)/\Hid (R.ownsRow w.heap.size 3 1 v (fP nw S (nw/64*64) m).length (iv (ai (fP nw S (nw/64*64) m)))/\aH R b g n nw a c (je m F) (je m L) A B E T/\aW b g w R)):=fun W v hb ho=>by
  obtain⟨R,Y,b4,a9,_⟩:=Cl (h.below hb) m b5 b1
  refine⟨R,Y,de ho (fun k X=>a9.block k (bN ho X).2 (by have:=(bN ho X).1;omega) (by have:=(bN ho X).1;omega)),b4,(aW.jK hb).trans a9⟩
 by_cases Q:J/64=nw/64
 ·rw[if_pos Q] at hm
  have hq:((nw/64:Nat):Int)=((J/64:Nat):Int):=z_
  rw[hq] at H
  obtain⟨r,M⟩: ∃r:Nat,J%64=r:=⟨_,rfl⟩
  rw[M] at hm
  have c1:r<64:=z_
  have b0:(m:Int)=r+1:=z_
  have a8:(J:Int)%64=(r:Int):=z_
  have a7:IntKind.u64.wrap ((J:Int)%64)=(r:Int):=by rw[a8];simp[IntKind.wrap,IntKind.bits,IntKind.signed];omega
  have a4:IntKind.u64.wrap ((r:Int)+1)=(m:Int):=by rw[b0];simp[IntKind.wrap,IntKind.bits,IntKind.signed];omega
  have c4:(m:Int)<=64:=z_
  clear h hi Q hq hm b0
  generalize ((J/64:Nat):Int)=q1 at*
  refine ge ?_
  go_wp2
  go_region_held3 (fun w'=>w'.cell? (ao b)=some (aj nw)) (go_keep)
   (first
    | (go_at_call 86;first
      |(refine(N.out _).mono ?_;rintro f w1 ⟨rfl,hw⟩;subst hw)
      |(refine(H.out _).mono ?_;rintro f w1 ⟨rfl,hw⟩;subst hw)))
  go_wp2
  clear a8 a7 a4
  go_loopw [6,30] (fun o i wr=> ∃j:Nat,j<=m/\i=ab j/\aC w wr/\wr.ownsRow w.heap.size 3 1 o (fP nw S (nw/64*64) j).length (iv (ai (fP nw S (nw/64*64) j)))) (fun _ i _=>m-(intOf i).toNat)
  case atStart=>exact⟨0,z_,rfl,cj.drew,World.ownsRow_nil _ _ _ _⟩
  case round=>
   obtain⟨j,hj,rfl,l,t⟩:=hrel
   obtain⟨av,cv,rfl⟩:=bJ t
   have P:=aa l
   have HO:=aa t
   have b3:=l.size
   by_cases b7:j<m
   ·have M:=HB.out _ l
    have e1:=M.sf j z_
    have e2:=M.sl j z_
    have b2:=M.cG
    have y1: ¬b=wr.heap.size:=z_
    have HR:=aa M
    have HI:=aa (O.out j z_)
    have c0:=V.out
    have b9:=HU.out j
    have b8:(fZ nw S (nw/64*64+j)).length<=S.length:=List.length_filter_le _ _
    have a2:Hid (fP nw S (nw/64*64) (j+1)=fP nw S (nw/64*64) j++fZ nw S (nw/64*64+j)):=rfl
    generalize fP nw S (nw/64*64) j=U at*
    generalize fZ nw S (nw/64*64+j)=G at*
    have b6:(j:Int)<m:=z_
    generalize F j=fj at*
    generalize L j=lj at*
    clear M l t O HU z HB N H
    go_wp2_with (first
     |(go_at_call 140;refine(HI.out _ (by exact HR.out.alloc _)).mono ?_;rintro f w5 ⟨⟨v5,rfl,C⟩,D⟩;obtain⟨a5,c5,rfl⟩:=bJ C;have a1:=aa C;have Z:=aa (nV (HO.out.alloc _) D);have I:=aa ((P.out.alloc P.out.size _).trans (D.mono (by simp;omega)));clear C D)
     |(at_builtin;refine dq _ rfl _ _ rfl w.heap.size _ _ _ _ _ _ _ rfl Z.out rfl a1.out (tD _) z_ I.out.size ?_;intro v' w6 u x;obtain⟨a6,c6,rfl⟩:=bJ u;have a0:=aa u;have a3:=aa (I.out.grown x I.out.size (fun k X=>(bN HO.out X).1));clear u x))
    go_roundw
    case rel=>exact⟨j+1,z_,by go_num,a3.out,by rw[a2.out,dW,iU,List.length_append];exact a0.out⟩
    case measure=>simp[intOf];omega
   ·obtain rfl:m=j:=by omega
    obtain⟨R,Y,HX⟩:=z.out wr _ l t
    clear l t HB O HU HO z N H
    go_wp2
    go_ret
    exact⟨⟨_,rfl,HX.out.1⟩,HX.out.2⟩
 ·rw[if_neg Q] at hm
  subst hm
  have c3: ¬((J/64:Nat):Int)=((nw/64:Nat):Int):=z_
  have c2:(((J/64:Nat):Int)==((nw/64:Nat):Int))=false:=y_
  generalize ((J/64:Nat):Int)=q1 at*
  generalize ((nw/64:Nat):Int)=q2 at*
  clear h hi Q
  refine ge ?_
  go_wp2
  go_region_held3 (fun w'=>w'.cell? (ao b)=some (aj nw)) (go_keep)
   (first
    | (go_at_call 86;first
      |(refine(N.out _).mono ?_;rintro f w1 ⟨rfl,hw⟩;subst hw)
      |(refine cS (H.out _) ?_)))
  go_wp2
  go_loopw [6,30] (fun o i wr=> ∃j:Nat,j<=64/\i=ab j/\aC w wr/\wr.ownsRow w.heap.size 3 1 o (fP nw S (nw/64*64) j).length (iv (ai (fP nw S (nw/64*64) j)))) (fun _ i _=>64-(intOf i).toNat)
  case atStart=>exact⟨0,z_,rfl,cj.drew,World.ownsRow_nil _ _ _ _⟩
  case round=>
   obtain⟨j,hj,rfl,l,t⟩:=hrel
   obtain⟨av,cv,rfl⟩:=bJ t
   have P:=aa l
   have HO:=aa t
   have b3:=l.size
   by_cases b7:j<64
   ·have M:=HB.out _ l
    have e1:=M.sf j z_
    have e2:=M.sl j z_
    have b2:=M.cG
    have y1: ¬b=wr.heap.size:=z_
    have HR:=aa M
    have HI:=aa (O.out j z_)
    have c0:=V.out
    have b9:=HU.out j
    have b8:(fZ nw S (nw/64*64+j)).length<=S.length:=List.length_filter_le _ _
    have a2:Hid (fP nw S (nw/64*64) (j+1)=fP nw S (nw/64*64) j++fZ nw S (nw/64*64+j)):=rfl
    generalize fP nw S (nw/64*64) j=U at*
    generalize fZ nw S (nw/64*64+j)=G at*
    have b6:(j:Int)<64:=z_
    generalize F j=fj at*
    generalize L j=lj at*
    clear M l t O HU z HB N H
    go_wp2_with (first
     |(go_at_call 140;refine(HI.out _ (by exact HR.out.alloc _)).mono ?_;rintro f w5 ⟨⟨v5,rfl,C⟩,D⟩;obtain⟨a5,c5,rfl⟩:=bJ C;have a1:=aa C;have Z:=aa (nV (HO.out.alloc _) D);have I:=aa ((P.out.alloc P.out.size _).trans (D.mono (by simp;omega)));clear C D)
     |(at_builtin;refine dq _ rfl _ _ rfl w.heap.size _ _ _ _ _ _ _ rfl Z.out rfl a1.out (tD _) z_ I.out.size ?_;intro v' w6 u x;obtain⟨a6,c6,rfl⟩:=bJ u;have a0:=aa u;have a3:=aa (I.out.grown x I.out.size (fun k X=>(bN HO.out X).1));clear u x))
    go_roundw
    case rel=>exact⟨j+1,z_,by go_num,a3.out,by rw[a2.out,dW,iU,List.length_append];exact a0.out⟩
    case measure=>simp[intOf];omega
   ·obtain rfl:j=64:=by omega
    obtain⟨R,Y,HX⟩:=z.out wr _ l t
    clear l t HB O HU HO z N H
    go_wp2
    go_ret
    exact⟨⟨_,rfl,HX.out.1⟩,HX.out.2⟩
end
def gX (W:World) (r b n:Nat) (D:Nat->Nat):Prop:= ∃a:Array Value,W.heap[r]? =some (.cells a 25 (0,0))/\a.size=b/\ ∀j,j<n->a[j]? =some (aj (D j:Int))
def swp (D:Nat->Nat) (j:Nat):Nat->Nat:=ay (ay D j (D (j-1))) (j-1) (D j)
section
variable {W W':World} {r a n:Nat} {D b:Nat->Nat}
theorem gX.lt (h:gX W r a n D):r<W.heap.size:=by obtain⟨c,d,_⟩:=h;grind
theorem gX.cell (h:gX W r a n D) (j:Nat) (d:j<n):W.cell? (af r j)=some (aj (D j:Int)):=by
 obtain⟨c,f,_,e⟩:=h
 unfold World.cell?
 grind
def gX.frozen (h:gX W r a n D) (j:Nat):W.frozen? (af r j)=false:=by
 obtain⟨c,d,_⟩:=h
 unfold World.frozen?
 grind
theorem gX.kept (h:gX W r a n D) (e:W'.heap[r]? =W.heap[r]?):gX W' r a n D:=by
 obtain⟨c,f,d⟩:=h
 exact⟨c,y_,d⟩
def gX.set (h:gX W r a n D) (j v:Nat) (f:j<n):gX (W.setCell (af r j) (aj v)) r a n (ay D j v):=by
 obtain⟨d,c,i,g⟩:=h
 refine⟨_,Go.Joins.block_setCell c _,y_,fun k e=> ?_⟩
 grind[ay]
end
structure qR (n i j:Nat) (D0 D:Nat->Nat):Prop where
 inj: ∀a c,a<n->c<n->D a=D c->a=c
 mem: ∀v,(∃a,a<n/\D a=v)↔ ∃a,a<n/\D0 a=v
 srt: ∀a c,a<c->c<=i->a≠j->c≠j->D a<D c
 low: ∀c,j<c->c<=i->D j<D c
def qR.step {n i j:Nat} {t D:Nat->Nat} (h:qR n i j t D) (hi:i<n) (y:0<j) (w:j<=i) (u:D j<D (j-1)):qR n i (j-1) t (swp D j):=by
 have p:swp D j (j-1)=D j:=aE _ _ _
 have l:swp D j j=D (j-1):=by unfold swp;grind[ay]
 have f: ∀a,a≠j->a≠j-1->swp D j a=D a:=fun a A z=>by unfold swp;grind[ay]
 have b: ∀a,a=j\/a=j-1\/(a≠j/\a≠j-1):=fun a=>by omega
 refine⟨fun a c o k e=> ?_,fun v=> ?_,fun a c x d o k=> ?_,fun c k d=> ?_⟩
 ·rcases b a with rfl|rfl|⟨g,m⟩<;>rcases b c with rfl|rfl|⟨s,r⟩
  ·rfl
  ·omega
  ·rw[l,f c s r] at e;have:=h.inj _ _ z_ k e;omega
  ·omega
  ·rfl
  ·rw[p,f c s r] at e;have:=h.inj _ _ z_ k e;omega
  ·rw[l,f a g m] at e;have:=h.inj _ _ o z_ e;omega
  ·rw[p,f a g m] at e;have:=h.inj _ _ o z_ e;omega
  grind[Wh.qR.inj]
 ·rw[<-h.mem v]
  grind
 ·rcases b a with rfl|q|⟨g,m⟩
  ·rw[l,f c z_ z_];exact h.srt _ _ z_ d z_ z_
  ·omega
  ·rcases b c with rfl|q|⟨s,r⟩
   ·rw[l,f a g m];exact h.srt _ _ z_ z_ g z_
   ·omega
   grind[Wh.qR.srt]
 ·rw[p]
  by_cases e:c=j
  ·grind
  ·rw[f c e z_];exact h.low c z_ d
def qR.done {n i j:Nat} {o D:Nat->Nat} (h:qR n i j o D) (hi:i<n) (d:j<=i) (f:j=0\/ ¬D j<D (j-1)): ∀a c,a<c->c<=i->D a<D c:=by
 intro a c k g
 by_cases m:a=j
 ·grind[Wh.qR.low]
 ·by_cases l:c=j
  ·subst l
   rcases f with q|q
   ·omega
   ·have b:D (c-1)≠D c:=fun e=>by have:=h.inj _ _ z_ z_ e;omega
    by_cases p:a=c-1
    ·grind
    ·have:=h.srt a (c-1) z_ z_ m z_;omega
  grind[Wh.qR.srt]
def Dx (x:Int) (W:World):vS 232 #[aj x] W (.bool false):=by
 refine ge ?_
 go_wp2
 go_ret
 simp
def J3 (x y:Int) (W:World):vS 212 #[aj x,aj y] W (.bool (decide (x<y))):=by
 have H:=aa (fun x W=>Dx x W)
 refine ge ?_
 go_wp2_with (go_at_call 232;refine cS (H.out _ _) ?_)
 go_ret
 simp
def ur (W:World) (r s n:Nat) (D:Nat->Nat) (h:gX W r s n D) (hn:n<=100000) (d: ∀a c,a<n->c<n->D a=D c->a=c):
  aB 206 #[.slice (some (ao r)) n s,ab 0,ab n] W fun e w'=>e=aS #[]/\ ∃u,gX w' r s n u/\(∀v,(∃a,a<n/\u a=v)↔ ∃a,a<n/\D a=v)/\(∀a c,a<c->c<n->u a<u c)/\Fr (fun k=>k=r) W w':=by
 have HL:=aa (fun x y W=>J3 x y W)
 have E:=aa d
 have U:=aa h
 clear h d
 refine ge ?_
 go_wp2
 go_loopw [6] (fun iv wr=> ∃(i:Nat) (u:Nat->Nat),1<=i/\(i<=n\/i=1)/\iv=ab i/\gX wr r s n u/\(∀a c,a<n->c<n->u a=u c->a=c)/\(∀v,(∃a,a<n/\u a=v)↔ ∃a,a<n/\D a=v)/\(∀a c,a<c->c<i->c<n->u a<u c)/\Fr (fun k=>k=r) W wr) (fun iv _=>n-(intOf iv).toNat)
 case atStart=>exact⟨1,D,z_,.inr rfl,rfl,U.out,E.out,fun v=>Iff.rfl,fun a c h1 h2 _=>by omega,Fr.refl _ _⟩
 case round=>
  obtain⟨i,V,h1,h2,rfl,b,d,o,m,g⟩:=hrel
  by_cases B:i<n
  ·have J:(i:Int)<n:=by omega
   have M:=aa g
   have HH:Hid (qR n i i D V):=⟨d,o,fun a c Q P ha hc=>m a c Q z_ z_,fun c hc P=>by omega⟩
   have l:=aa b
   clear b d o m g U E
   go_wp2
   go_loopw [7] (fun O X=> ∃(j:Nat) (f:Nat->Nat),j<=i/\O=ab j/\gX X r s n f/\qR n i j D f/\Fr (fun k=>k=r) W X) (fun O _=>(intOf O).toNat)
   case atStart=>exact⟨i,V,z_,rfl,l.out,HH.out,M.out⟩
   case round=>
    obtain⟨j,f,A,rfl,b,C,g⟩:=hrel
    clear l HH M
    by_cases I:j=0
    ·subst I
     have Z:=C.done B A (.inl rfl)
     have T:=aa Z
     have l:=aa b
     have t:=aa C
     have z:=aa g
     clear Z C g
     go_wp2
     go_quiet (fail)
     go_wp2
     go_roundw
     case rel=>exact⟨i+1,f,z_,.inl z_,by go_num,l.out.kept rfl,t.out.inj,t.out.mem,fun a c F N q3=>T.out a c F z_,z.out.drewN _⟩
     case measure=>simp[intOf];omega
    ·obtain⟨k,rfl⟩: ∃k,j=k+1:=⟨j-1,z_⟩
     have c1:=b.cell (k+1) z_
     have c0:=b.cell k z_
     have fz:=b.frozen
     have H:((k+1:Nat):Int)=(k:Int)+1:=z_
     rw[H]
     have a9:k+1<n:=z_
     have b0:k<n:=z_
     have a8:k<=100000:=z_
     have b1:decide (0<(k:Int)+1)=true:=xZ0 z_
     have a5:(k:Int)+1<(n:Int):=z_
     have a6:(k:Int)<n:=z_
     have a4:(0:Int)<=(k:Int)+1:=z_
     have a3:(0:Int)<=(k:Int):=z_
     have a2:((k:Int)+1).toNat=k+1:=z_
     have a1:IntKind.i64.wrap ((k:Int)+1-1)=(k:Int):=by simp[IntKind.wrap,IntKind.bits,IntKind.signed];omega
     have a0:IntKind.i64.wrap (k:Int)=k:=y_
     have L:=fun q=>C.done B A (.inr q)
     have G:=fun q=>C.step B z_ A q
     have S:=aa L
     have R:=aa G
     have l:=aa b
     have t:=aa C
     have z:=aa g
     have w:=aa (fun W=>HL.out (f (k+1):Int) (f k:Int) W)
     have Y:=b.lt
     clear L G C g I H HL b
     by_cases a7:f (k+1)<f k
     ·have p:decide ((f (k+1):Int)<(f k:Int))=true:=by grind
      rw[p] at w
      go_wp2
      go_region_held3 (fun w'=>w'.cell? (af r (k+1))=some (aj (f (k+1):Int))/\w'.cell? (af r k)=some (aj (f k:Int))) (go_keep)
       (first
        |(go_at_call 212;refine(w.out _).mono ?_;rintro e w1 ⟨rfl,hw⟩;subst hw))
      go_wp2
      go_region
      go_wp2
      go_roundw
      case rel=>
       refine⟨k,swp f (k+1),z_,rfl,?_,R.out y_,?_⟩
       ·exact gX.kept ((l.out.set (k+1) (f k) z_).set k (f (k+1)) z_) rfl
       ·exact(((z.out.setCell (a:=(af r (k+1))) rfl _).setCell (a:=(af r k)) rfl _).drew).drew
      case measure=>simp[intOf]
     ·have p:decide ((f (k+1):Int)<(f k:Int))=false:=by grind
      rw[p] at w
      have T:=aa (S.out y_)
      go_wp2
      go_region_held3 (fun w'=>w'.cell? (af r (k+1))=some (aj (f (k+1):Int))/\w'.cell? (af r k)=some (aj (f k:Int))) (go_keep)
       (first
        |(go_at_call 212;refine cS (w.out _) ?_))
      go_wp2
      go_roundw
      case rel=>exact⟨i+1,f,z_,.inl z_,by go_num,l.out.kept rfl,t.out.inj,t.out.mem,fun a c F N q3=>T.out a c F z_,z.out.drew⟩
      case measure=>simp[intOf];omega
  ·have J: ¬(i:Int)<n:=by omega
   have HE:=aa (And.intro b (And.intro o (And.intro (fun a c (F:a<c) (N:c<n)=>m a c F z_ N) g)))
   clear b d o m g U E
   go_wp2
   go_end0
   exact⟨rfl,V,HE.out⟩
def ME (W:World) (r b n:Nat) (D:Nat->Nat) (q:Int) (h:gX W r b n D) (p:n<=12) (d: ∀a c,a<n->c<n->D a=D c->a=c):
  aB 179 #[.slice (some (ao r)) n b,ab 0,ab n,ab q] W fun e w'=>e=aS #[]/\ ∃f,gX w' r b n f/\(∀v,(∃a,a<n/\f a=v)↔ ∃a,a<n/\D a=v)/\(∀a c,a<c->c<n->f a<f c)/\Fr (fun k=>k=r) W w':=by
 have m:=aa (ur W r b n D h z_ d)
 have g:(n:Int)<=12:=z_
 clear h d
 refine ge ?_
 go_wp2
 go_loopw [1,2] (fun j i wr=>j=ab 0/\i=ab n/\wr=W) (fun _ _ _=>0)
 case atStart=>simp
 case round=>
  obtain⟨rfl,rfl,rfl⟩:=hrel
  go_wp2_with (go_at_call 206;refine cH m.out fun o l=> ?_)
  simp[bodyPost,results,Tryz.results179,go_sem]
  exact l.out
def Ej (m:Nat):Prop:= ∀(W:World) (r b n:Nat) (D:Nat->Nat),gX W r b n D->n<=m->(∀a c,a<n->c<n->D a=D c->a=c)->
 aB 141 #[.slice (some (ao r)) n b] W fun e f=>e=aS #[]/\ ∃d,gX f r b n d/\(∀v,(∃a,a<n/\d a=v)↔ ∃a,a<n/\D a=v)/\(∀a c,a<c->c<n->d a<d c)/\Fr (fun k=>k=r) W f
def EO (x:Int) (c:0<=x) (h:x<=12) (W:World):aB 216 #[aj x] W fun e a=>(∃q:Int,e= .returned (ab q))/\a=W:=by
 have b:x=0\/x=1\/x=2\/x=3\/x=4\/x=5\/x=6\/x=7\/x=8\/x=9\/x=10\/x=11\/x=12:=z_
 rcases b with rfl|rfl|rfl|rfl|rfl|rfl|rfl|rfl|rfl|rfl|rfl|rfl|rfl<;>
 ·refine ge ?_
  go_wp2
  go_ret
  exact⟨⟨_,rfl⟩,rfl⟩
def wc (x:Int) (b:0<=x) (h:x<=12) (W:World):aB 180 #[aj x] W fun e a=>(∃q:Int,e= .returned (ab q))/\a=W:=by
 have H:=aa (EO x b h)
 refine ge ?_
 go_wp2_with (go_at_call 216;refine(H.out _).mono ?_;rintro e c ⟨⟨q,rfl⟩,hw⟩;subst hw)
 go_ret
 simp
def Kq:Ej 12:=by
 intro W r b n D h c a
 have f:=aa (fun q=>ME W r b n D q h c a)
 have g:=aa (wc (n:Int) z_ z_)
 have hw:IntKind.u64.wrap (n:Int)=n:=by rw[IntKind.wrap_u64];omega
 clear h a
 refine ge ?_
 go_wp2_with (first
  |(go_at_call 180;refine(g.out _).mono ?_;rintro e j ⟨⟨q,rfl⟩,hw⟩;replace hw:=hw.symm;subst hw)
  |(go_at_call 179;refine cH (f.out _) fun i d=> ?_))
 go_end0
 exact⟨rfl,d.out⟩
def DN (W:World):vS 141 #[.slice none 0 0] W (.tuple #[]):=by
 have f:=aa (wc 0 z_ z_)
 have d:Hid (∀W,vS 206 #[.slice none 0 0,ab 0,ab 0] W (.tuple #[])):=by
  show∀W,_
  intro W
  refine ge ?_
  go_wp2
  go_loopw [6] (fun iv wr=>iv=ab 1/\wr=W) (fun _ _=>0)
  case atStart=>simp
  case round=>
   obtain⟨rfl,rfl⟩:=hrel
   go_wp2
   go_end0
   simp
 have c:Hid (∀q W,vS 179 #[.slice none 0 0,ab 0,ab 0,ab q] W (.tuple #[])):=by
  show∀q W,_
  intro q W
  refine ge ?_
  go_wp2
  go_loopw [1,2] (fun b a wr=>b=ab 0/\a=ab 0/\wr=W) (fun _ _ _=>0)
  case atStart=>simp
  case round=>
   obtain⟨rfl,rfl,rfl⟩:=hrel
   go_wp2_with (go_at_call 206;refine cS (d.out _) ?_)
   simp[bodyPost,results,Tryz.results179,go_sem]
 refine ge ?_
 go_wp2_with (first
  |(go_at_call 180;refine(f.out _).mono ?_;rintro e g ⟨⟨q,rfl⟩,hw⟩;replace hw:=hw.symm;subst hw)
  |(go_at_call 179;refine cS (c.out _ _) ?_))
 go_end0
 simp
end Go.Proofs.YtnmhcgpnhlhcgaaGreatDoor.Wh
namespace Go.Proofs.YtnmhcgpnhlhcgaaGreatDoor.Wh
open Go.RowKit
def pj (to:Nat) (fr:Int->Option (Nat×Nat)) (ls:List Nat):Nat->Nat:=fun s=>if to<to/64*64+s/\(to/64*64+s)∈ls then((fr ((to/64*64+s:Nat):Int)).getD (0,0)).1 else 0
def pt (to:Nat) (fr:Int->Option (Nat×Nat)) (ls:List Nat):Nat->Nat:=fun s=>if to<to/64*64+s/\(to/64*64+s)∈ls then((fr ((to/64*64+s:Nat):Int)).getD (0,0)).2 else 0
def rp (fr:Int->Option (Nat×Nat)) (ls:List Nat):Int->Option (Nat×Nat):=fun i=>if i∈ls.map (fun (k:Nat)=>(k:Int)) then none else fr i
def fB (to nw:Nat) (S:List It) (ls:List Nat):List It:=many nw S (ls.filter (fun k=>decide (k<=to)))
section
variable {to nw:Nat} {fr:Int->Option (Nat×Nat)} {ls:List Nat} {t:Nat} {S:List It}
def Ii (h:t<=to):pj to fr (ls++[t])=pj to fr ls:=by
 funext s
 unfold pj
 grind
def Iw (h:t<=to):pt to fr (ls++[t])=pt to fr ls:=by
 funext s
 unfold pt
 grind
def EA (h:to<t) (a:t/64=to/64):pj to fr (ls++[t])=ay (pj to fr ls) (t%64) ((fr (t:Int)).getD (0,0)).1:=by
 grind[aE,Wh.pj,aq]
def Em (h:to<t) (a:t/64=to/64):pt to fr (ls++[t])=ay (pt to fr ls) (t%64) ((fr (t:Int)).getD (0,0)).2:=by
 grind[aE,Wh.pt,aq]
def vF:rp fr (ls++[t])=dJ (rp fr ls) (t:Int) none:=by
 grind[Wh.rp,Wh.dJ]
def D6 (h:t ∉ ls):rp fr ls (t:Int)=fr (t:Int):=by
 unfold rp
 grind
def G4 (h:t<=to):fB to nw S (ls++[t])=fB to nw S ls++fZ nw S t:=by
 unfold fB many
 grind
def CH (h:to<t):fB to nw S (ls++[t])=fB to nw S ls:=by
 unfold fB many
 grind
end
def uv (a:List Nat):List Value:=a.map (fun (x:Nat)=>Value.int .u64 (x:Int))
theorem Ho:(Tryz.prog.info? 25).map (fun i=>(i.zero,i.size,i.bytes))=some (some (aj 0),1,8):=by rfl
def fF (D:Nat->Nat) (j:Nat):List Nat:=(List.range j).map D
def DS (D:Nat->Nat) (j:Nat):fF D (j+1)=fF D j++[D j]:=by grind[Wh.fF,List.range_succ]
def te {D:Nat->Nat} {j v:Nat}:v∈fF D j↔ ∃a,a<j/\D a=v:=by
 unfold fF
 simp
def IX {W:World} {a r f n:Nat} {b:List Nat} (h:W.ownsRow a 25 1 (.slice (some (ao r)) n f) n (uv b)):gX W r f n (fun j=>b.getD j 0)/\b.length=n/\a<=r:=by
 obtain⟨o,m⟩:=h
 have c:b.length=n:=by simpa [uv] using o
 rcases m with ⟨e,_⟩|⟨g,u,d,e,l,k,q,t,p,i⟩
 ·cases e
 ·cases e
  refine⟨⟨d,k,z_,fun j s=> ?_⟩,c,l⟩
  have this:(d.toList.take (n*1))[j]? =(uv b)[j]? :=by rw[i]
  grind[Wh.uv]
attribute [local go_sem ↓] Go.wp_at_zero Go.wp_at_succ
def vO (x y:Int):(Lit.int .u64 x).sameKey (.int .u64 y)=decide (x=y):=by
 rw[Bool.eq_iff_iff,WideAt.sameKey_iff (kD y)]
 simp
def rB (w:World) {i:Array Oper} {d:List Oper} {o:Oper} {a:Act} {Q:Exit->Act->World->Prop} (P:o.guard=none) (t:Operand) (C:o.op=Op.next t false) (p r s:Nat) (D:DataW Unit) (left:Lit->Bool) (e:Nat)
  (G:a.eval t= .pointer (some ⟨r,0,none⟩)) (h:w.ranges Tryz.prog 25 RL p r s D left e)
  (m:e=0->(∀q,left q=false)->wpList Tryz.prog i Q d (a.put o.dst (.tuple #[.bool false])) w)
  (j: ∀(k:Nat) (f l:Int) (g:World) (b:Nat),k<18446744073709551616->left (.int .u64 k)=true->Maps.has D (.int .u64 k)=true->g.ranges Tryz.prog 25 RL p r s D (fun z=>left z&& !z.sameKey (.int .u64 k)) b->b<e->
   w.grownBy g (some r)->g.heap.size=w.heap.size->(Instr.entry (.pointer (some ⟨r,0,none⟩))).run Tryz.prog g= .ok (.tuple #[.int .u64 k,.agg #[.int .i64 f,.int .i64 l]]) g->wpList Tryz.prog i Q d (a.put o.dst (.tuple #[.bool true,.int .u64 k,.agg #[.int .i64 f,.int .i64 l]])) g):
  wpList Tryz.prog i Q (o::d) a w:=by
 refine wpList_next_ranges w P t C 25 yv RL (Value.int .u64) (fun c:Int×Int=> .agg #[.int .i64 c.1,.int .i64 c.2]) (fun M q O=>by obtain⟨x,N,_⟩:=Maps.keyOf_int_inv mK O;exact⟨x,N⟩) (fun v y L=>by obtain⟨a,c,rfl,_⟩:=GB L;exact⟨(a,c),rfl⟩) p r s D left e G h m ?_
 intro x c q y g b n F L J B E H A I
 obtain⟨T,S,rfl,u⟩:=Maps.keyOf_int_inv mK n
 cases S
 have R:0<=x/\x<18446744073709551616:=by
  simp[Lit.wf,IntKind.min,IntKind.max,IntKind.bits,IntKind.signed] at u
  omega
 obtain⟨k,rfl⟩:=yY0 R.1
 exact j k c.1 c.2 g b z_ F (Maps.has_true_of_atKey J) B E H A I
section
variable {w:World} {b g d n nw e s:Nat} {F L A B E i f:Nat->Nat} {T:Nat->Bool} {fr:Int->Option (Nat×Nat)} {S:List It}
def met (fr:Int->Option (Nat×Nat)) (to k:Nat):Prop:=(fr (k:Int)).isSome=true/\k/64<=to/64
def Ar (hi:Inv n nw e F L fr A B E T S) {to:Nat} (h:List Nat) (u:h.Nodup) (q: ∀k∈h,met fr to k):h.length<=S.length:=by
 have:=fL (l:=h.map (fun (k:Nat)=>(k:Int))) (m:=S.map (fun x=>(ky nw x:Int))) (by
  grind) (fun x p=>by
   obtain⟨k,r,rfl⟩:=List.mem_map.1 p
   obtain⟨t,_⟩:=q k r
   obtain⟨k',c,j⟩:=hi.out _ t
   obtain rfl:k=k':=z_
   rcases hi.fM k j with ⟨c,_⟩|⟨a,l,_,c,_⟩
   ·grind
   ·obtain⟨y,o⟩:=List.exists_mem_of_ne_nil _ c
    obtain⟨z,v⟩:=dV.1 o
    grind)
 grind
def zN {D:Nat->Nat} {N j:Nat} (h: ∀a c,a<c->c<N->D a<D c) (k:j<=N):(fF D j).Pairwise (· < ·):=by
 grind[List.pairwise_iff_getElem,Wh.fF]
def FX (a:lB S) {to:Nat} {ls:List Nat} (h:ls.Pairwise (· < ·)):(fB to nw S ls).length<=S.length:=by
 grind[Wh.fB,Wh.tE]
def EN (h:aH w b g n nw e (.map (some d)) i f A B E T) (q4:i=fun _=>0) (q3:f=fun _=>0) (hm:bU w d fr s) (hi:Inv n nw e F L fr A B E T S) (g9:b≠d) (m0:g≠d) (hn:n<=1024) (m:Nat) (hS:Ej m) (t5:n<=m)
  (to:Nat) (ht:to<18446744073709551616) (t1:nw/64<to/64):
  Calls Tryz.prog 87 #[.pointer (some ⟨b,0,none⟩),.int .u64 to] w fun u w'=> ∃ls:List Nat,ls.Pairwise (· < ·)/\(∀k,k∈ls↔met fr to k)/\(∃v,u= .returned v/\w'.ownsRow w.heap.size 3 1 v (fB to nw S ls).length (iv (ai (fB to nw S ls))))/\
   aH w' b g n nw e (.map (some d)) (pj to fr ls) (pt to fr ls) A B E T/\(∃s',bU w' d (rp fr ls) s')/\Fr (O3 b g d) w w':=by
 obtain⟨i0,l8,k2,k1,k0⟩:=info_parts Ho
 have n8:=aa hm
 obtain⟨D,hD,m6,u2,u1⟩:=hm
 have e0:=h.tm
 have t9:=h.cG
 have t6:=h.dO
 have l1:=hD.lt
 have HD:=aa hD
 have o2:=aa m6
 have HR:=aa h
 have HI:=aa hi
 have n3:=aa (fun x hx=>cE x hx)
 have h9:=aa (cE to ht)
 clear h hi hD m6
 refine ge ?_
 go_wp2_with (at_range;refine wpList_range_own _ rfl _ 171 rfl 25 174 yv Tryz.underlying171 RL d s D rfl HD.out ?_;intro w0 e9 m1 t4;have n4:=aa e9;have a9:=aa m1;clear e9 m1)
 go_frame
 go_loopw [5] (fun v wr=> ∃(ts:List Nat) (left:Lit->Bool) (h6:Nat),wr.ranges Tryz.prog 25 RL d w.heap.size s D left h6/\Below w.heap.size w wr/\wr.ownsRow w.heap.size 25 1 v ts.length (uv ts)/\ts.Nodup/\(∀k:Nat,k∈ts↔(met fr to k/\left (.int .u64 k)=false))) (fun _ wr=>wr.rangeLeft d w.heap.size)
 case atStart=>
  refine⟨[],_,_,n4.out,⟨a9.out.os,a9.out.tape,a9.out.output,a9.out.size,fun k O=>a9.out.block k O q_⟩,World.ownsRow_nil _ _ _ _,List.nodup_nil,fun k=>⟨fun q=>absurd q q_,fun q=> ?_⟩⟩
  obtain⟨⟨q1,_⟩,V⟩:=q
  rw[o2.out,q1] at V
  cases V
 case round=>
  obtain⟨ts,left,h6,g0,c3,I,d3,f0⟩:=hrel
  obtain⟨av,cv,rfl⟩:=bJ I
  have Z:=aa g0
  have HB:=aa c3
  have HO:=aa I
  have a8:=aa d3
  have Q:=aa f0
  have p0:=c3.size
  have k7:=g0.lt
  clear g0 c3 I d3 f0 n4 a9 HD
  go_wp2_with (at_next;refine rB _ rfl _ rfl d w.heap.size s D left h6 rfl Z.out ?_ ?_)
  ·intro q0 l4
   have a2: ∀k,k∈ts↔met fr to k:=fun k=>by rw[Q.out k];exact⟨fun q=>q.1,fun q=>⟨q,l4 _⟩⟩
   have g4:=zY0 (Ar HI.out (to:=to) ts a8.out (fun k O=>(a2 k).1 O)) HI.out.cL
   obtain⟨N,hN⟩: ∃N,ts.length=N:=⟨_,rfl⟩
   have c8:Hid (Calls Tryz.prog 141 #[.slice av N cv] wr fun u w'=>u= .returned (.tuple #[])/\ ∃z,(N=0\/ ∃r2,av=some ⟨r2,0,none⟩/\w.heap.size<=r2/\gX w' r2 cv N z)/\(∀k,k∈fF z N↔met fr to k)/\(∀a c,a<c->c<N->z a<z c)/\Below w.heap.size w w'):=by
    have ho:=HO.out
    rw[hN] at ho
    rcases ho.2 with ⟨b3,h0⟩|⟨r2,n0,m8,f7,_⟩
    ·cases b3
     refine(DN wr).mono ?_
     rintro u w' ⟨rfl,rfl⟩
     refine⟨rfl,fun _=>0,.inl rfl,fun k=> ?_,fun a c _ hc=>by omega,HB.out⟩
     rw[<-a2 k,List.length_eq_zero_iff.1 hN]
     exact Iff.rfl
    ·cases f7
     obtain⟨a0,_,p8⟩:=IX ho
     have l7: ∀a c,a<N->c<N->ts.getD a 0=ts.getD c 0->a=c:=fun a c ha hc u=>by
      have d3:=a8.out
      simp only[List.getD,zX0 (show a<ts.length by omega),zX0 (show c<ts.length by omega),Option.getD_some] at u
      have hp:=List.pairwise_iff_getElem.1 d3
      rcases Nat.lt_trichotomy a c with q|q|q
      ·exact absurd u (hp a c _ _ q)
      ·exact q
      ·exact absurd u.symm (hp c a _ _ q)
     refine(hS wr r2 cv N (fun j=>ts.getD j 0) a0 z_ l7).mono ?_
     rintro u w' ⟨rfl,z,p5,p6,p2,b9⟩
     refine⟨rfl,z,.inr ⟨r2,rfl,p8,p5⟩,fun k=> ?_,p2,?_⟩
     ·rw[te,p6 k,<-a2 k]
      constructor
      ·rintro⟨a,ha,rfl⟩
       simp only[List.getD,zX0 (show a<ts.length by omega),Option.getD_some]
       exact List.getElem_mem _
      ·intro O
       obtain⟨a,ha,u⟩:=List.mem_iff_getElem.1 O
       exact⟨a,z_,by simp[List.getD,zX0 ha,u]⟩
     ·exact⟨b9.os.trans HB.out.os,b9.tape.trans HB.out.tape,b9.output.trans HB.out.output,zY0 HB.out.size b9.size,fun k O=>(b9.block k (by have:=HB.out.size;omega) z_).trans (HB.out.block k O)⟩
   have d8:Hid (N<=n):=by show N<=n;omega
   rw[hN]
   clear HO a8 Q n3 h9 a2 g4 q0 l4 hN Z hS k7 p0
   clear e0 k2 k1 k0 l8
   go_wp2_with (go_at_call 141;refine(c8.out).mono ?_;rintro u w3 ⟨rfl,z,a0,l0,k6,m3⟩;have a4:=aa a0;have d9:=aa l0;have a7:=aa k6;have e5:=aa m3;clear a0 l0 k6 m3)
   have R:Hid (aH w3 b g n nw e (.map (some d)) (pj to fr (fF z 0)) (pt to fr (fF z 0)) A B E T/\(∃s',bU w3 d (rp fr (fF z 0)) s')):=by
    have p3:=HR.out.below e5.out
    have e1:pj to fr (fF z 0)=fun _=>0:=by funext q;unfold pj;exact if_neg (fun q=>by simp[fF] at q)
    have e2:pt to fr (fF z 0)=fun _=>0:=by funext q;unfold pt;exact if_neg (fun q=>by simp[fF] at q)
    have e3:rp fr (fF z 0)=fr:=by funext q;unfold rp;exact if_neg (fun q=>by simp[fF] at q)
    rw[e1,e2,e3]
    subst q4 q3
    exact⟨p3,s,n8.out.block (e5.out.block d l1)⟩
   clear HR n8 HB c8
   go_loopw [7,32] (fun v o4 wr=> ∃j:Nat,j<=N/\o4= .int .i64 j/\aH wr b g n nw e (.map (some d)) (pj to fr (fF z j)) (pt to fr (fF z j)) A B E T/\(∃s',bU wr d (rp fr (fF z j)) s')/\Fr (fun k=>k=b\/k=d) w3 wr/\wr.ownsRow w3.heap.size 3 1 v (fB to nw S (fF z j)).length (iv (ai (fB to nw S (fF z j))))) (fun _ o _=>N-(intOf o).toNat)
   case atStart=>exact⟨0,z_,rfl,R.out.1,R.out.2,Fr.refl _ _,World.ownsRow_nil _ _ _ _⟩
   case round=>
    obtain⟨j,hj,rfl,J,⟨s2,X⟩,Y,I⟩:=hrel
    obtain⟨u5,u3,rfl⟩:=bJ I
    clear R
    have s9:=J.cG
    have k5:=e5.out.size
    have s6:=Y.size
    by_cases g6:j<N
    ·obtain⟨t,b1⟩: ∃t,z j=t:=⟨_,rfl⟩
     have b5:=(d9.out t).1 (te.2 ⟨j,g6,b1⟩)
     have f9:t ∉ fF z j:=fun q=>by
      obtain⟨a,ha,u⟩:=te.1 q
      have:=a7.out a j ha g6
      omega
     obtain⟨k',ek,g5⟩:=HI.out.out _ b5.1
     obtain rfl:t=k':=z_
     have p7:=b5.2
     obtain⟨r,l,d4,b7,c7⟩: ∃r l,fr (t:Int)=some (r,l)/\fZ nw S t≠[]/\oP A B r l (ai (fZ nw S t)):=by
      rcases HI.out.fM t g5 with ⟨u,_⟩|q
      ·have:=b5.1;rw[u] at this;cases this
      ·exact q
     have k4:t<18446744073709551616:=by
      obtain⟨y,hy⟩:=List.exists_mem_of_ne_nil _ b7
      obtain⟨h1,h2⟩:=dV.1 hy
      have h3:=HI.out.tm y h1
      have h4:=HI.out.hw
      unfold ky at h2
      omega
     have g7:(fZ nw S t).length<=1024:=by
      have h1:(fZ nw S t).length<=S.length:=List.length_filter_le _ _
      have h2:=HI.out.cL
      omega
     have o1:=aa fun W (hW:aH W b g n nw e (.map (some d)) (pj to fr (fF z j)) (pt to fr (fF z j)) A B E T)=>by
      have q:=E9 hW c7 (fun p hp=>by
       obtain⟨y,hy,rfl⟩:=cl.1 hp
       have:=HI.out.lt y (dV.1 hy).1
       omega) (mq (pK HI.out.nd)) hn (by rw[dA];exact g7)
      rwa [dA] at q
     have t8:(fB to nw S (fF z j)).length<=1024:=by
      have h1:=FX (nw:=nw) (to:=to) HI.out.srt (zN a7.out hj)
      have h2:=HI.out.cL
      omega
     obtain⟨r2,rfl,p4,b2⟩:=a4.out.resolve_left z_
     have g2:=b2.lt
     have k8:=(b2.kept (W':=wr) (Y.block r2 g2 z_)).cell j g6
     rw[b1] at k8
     have a3:rp fr (fF z j) (t:Int)=some (r,l):=by rw[D6 f9];exact d4
     have o5:=J.tm
     have d2:=AU t k4
     have u0:=d8.out
     have l6:(j:Int)<N:=z_
     have c9:=aa J
     have n7:=aa X
     have d1:=aa Y
     have HO:=aa I
     have d6:fF z (j+1)=fF z j++[t]:=by rw[DS,b1]
     by_cases f8:t<=to
     ·have k3:(t:Int)<=to:=by omega
      have P:=X.look (t:Int) d2
      rw[a3] at P
      have f2:(Instr.lookup 171 (.map (some d)) (.int .u64 t) false).run Tryz.prog wr= .ok (.agg #[.int .i64 r,.int .i64 l]) wr:=P
      have h7:Hid (pj to fr (fF z (j+1))=pj to fr (fF z j)/\pt to fr (fF z (j+1))=pt to fr (fF z j)/\rp fr (fF z (j+1))=dJ (rp fr (fF z j)) (t:Int) none/\fB to nw S (fF z (j+1))=fB to nw S (fF z j)++fZ nw S t):=by
       show _/\_
       rw[d6]
       exact⟨Ii f8,Iw f8,vF,G4 f8⟩
      generalize fB to nw S (fF z j)=U at*
      generalize fZ nw S t=G at*
      clear b5 f9 ek g5 d4 b7 c7 J X Y I P d6 a3 b1 d9 a7 a4 HI d8
      go_wp2_with (first
       |(go_at_call 140;refine(o1.out _ c9.out).mono ?_;rintro u w5 ⟨⟨v5,rfl,g3⟩,d5⟩;obtain⟨a5,c5,rfl⟩:=bJ g3;have q7:=aa g3;have q6:=aa (nV HO.out d5);have j2:=aa d5;have t3:=d5.size;clear g3 d5)
       |(at_builtin;refine dq _ rfl _ _ rfl w3.heap.size _ _ _ _ _ _ _ rfl q6.out rfl q7.out (tD _) z_ z_ ?_;intro v' w6 M C;obtain⟨a6,c6,rfl⟩:=bJ M;have b8:Fr (fun k=>w3.heap.size<=k) w5 w6:=⟨C.os,C.tape,C.output,C.size,fun k O hn=>C.block k O (fun u=>hn (bN HO.out u.symm).1)⟩;have m2:=(Fr.aF j2.out).trans b8;have i2:=aa M;have e4:=aa m2;have g1:=(c9.out.below j2.out).kept (b8.block b z_ z_) (b8.block g z_ z_);have i1:=aa g1;have r0:=aa ((n7.out.block (j2.out.block d z_)).block (b8.block d z_ z_));have s4:=g1.tm;have t2:=C.size;clear M C b8 m2 g1)
       |(at_delete;refine dw rfl _ _ rfl (by exact r0.out) (t:Int) d2 rfl rfl ?_;intro w7 b6 H;have j0:=aa b6;have j1:=aa H;clear b6 H))
      go_roundw
      case rel=>
       obtain⟨x1,x2,x3,x4⟩:=h7.out
       have H:=j1.out
       refine⟨j+1,z_,by go_num,?_,?_,?_,?_⟩
       ·rw[x1,x2]
        exact i1.out.kept (H.block b i1.out.cG (fun u=>g9 (by injection u))) (H.block g i1.out.dO (fun u=>m0 (by injection u)))
       ·rw[x3];exact⟨_,j0.out⟩
       ·refine⟨H.os.trans (e4.out.os.trans d1.out.os),H.tape.trans (e4.out.tape.trans d1.out.tape),H.output.trans (e4.out.output.trans d1.out.output),by have:=H.size;omega,fun k O b4=> ?_⟩
        rw[H.block k z_ (fun u=>b4 (.inr (by injection u))),e4.out.block k z_ z_]
        exact d1.out.block k O b4
       ·rw[x4,dW,iU,List.length_append]
        exact de i2.out (fun k O=>H.block k (bN i2.out O).2 (fun u=>by have:=(bN i2.out O).1;injection u with u;omega))
      case measure=>simp[intOf];omega
     ·have k3: ¬(t:Int)<=to:=by omega
      have e7:t/64=to/64:=z_
      have P:=(X.block (w':=wr.drew) rfl).look (t:Int) d2
      rw[a3] at P
      have f2:(Instr.lookup 171 (.map (some d)) (.int .u64 t) false).run Tryz.prog wr.drew= .ok (.agg #[.int .i64 r,.int .i64 l]) wr.drew:=P
      have h7:Hid (pj to fr (fF z (j+1))=ay (pj to fr (fF z j)) (t%64) r/\pt to fr (fF z (j+1))=ay (pt to fr (fF z j)) (t%64) l/\rp fr (fF z (j+1))=dJ (rp fr (fF z j)) (t:Int) none/\fB to nw S (fF z (j+1))=fB to nw S (fF z j)):=by
       show _/\_
       rw[d6]
       have q1:=EA (fr:=fr) (ls:=fF z j) (show to<t by omega) e7
       have V:=Em (fr:=fr) (ls:=fF z j) (show to<t by omega) e7
       rw[d4] at q1 V
       exact⟨q1,V,vF,CH z_⟩
      have a1:t%64<64:=Nat.mod_lt _ x_
      have c1:=J.sf (t%64) a1
      have c2:=J.sl (t%64) a1
      have fb:=J.fb
      have r1:(0:Int)<=((t%64:Nat):Int):=z_
      have t0:((t%64:Nat):Int)<64:=z_
      have r3:IntKind.u64.wrap ((t:Int)%64)=((t%64:Nat):Int):=by rw[IntKind.wrap_u64];omega
      obtain⟨W4,c4⟩: ∃W4,W4=(wr.setCell ⟨b,1+t%64*2,none⟩ (.int .i64 r)).setCell ⟨b,1+t%64*2+1,none⟩ (.int .i64 l):=⟨_,rfl⟩
      have d7:Hid (aH W4 b g n nw e (.map (some d)) (ay (pj to fr (fF z j)) (t%64) r) (ay (pt to fr (fF z j)) (t%64) l) A B E T):=by rw[c4];exact(J.dJ (t%64) a1 r).rA (t%64) a1 l
      have b0:Hid (Fr (fun k=>k=b\/k=d) w3 W4):=by rw[c4];exact(Y.setCell (a:=⟨b,1+t%64*2,none⟩) (.inl rfl) _).setCell (a:=⟨b,1+t%64*2+1,none⟩) (.inl rfl) _
      have h5: ∀k,k≠b->W4.heap[k]? =wr.heap[k]? :=fun k O=>by rw[c4,zZ0 _ _ _ _ O,zZ0 _ _ _ _ O]
      have r4:=aa<|X.block (h5 d (fun u=>g9 u.symm))
      have i3:=aa (de (w':=W4) I (fun k O=>h5 k (by have:=(bN I O).1;omega)))
      have n1:=aa c4
      generalize fB to nw S (fF z j)=U at*
      clear b5 f9 ek g5 d4 b7 c7 J X Y I P d6 a3 b1 d9 a7 a4 HI d8 c4 h5 HO d1 n7 c9 o1
      go_upto_region 14 with fail
      go_region
      go_upto_region 15 with fail
      rw[<-n1.out]
      have s5:=d7.out.tm
      clear n1 c1 c2 fb f2 o5 k8
      go_wp2_with (at_delete;refine dw rfl _ _ rfl (by exact r4.out.block (w':=W4.drew) rfl) (t:Int) d2 rfl rfl ?_;intro w7 b6 H;have j0:=aa b6;have j1:=aa H;clear b6 H)
      go_roundw
      case rel=>
       obtain⟨x1,x2,x3,x4⟩:=h7.out
       have H:=j1.out
       refine⟨j+1,z_,by go_num,?_,?_,?_,?_⟩
       ·rw[x1,x2]
        exact d7.out.kept (H.block b d7.out.cG (fun u=>g9 (by injection u))) (H.block g d7.out.dO (fun u=>m0 (by injection u)))
       ·rw[x3];exact⟨_,j0.out⟩
       ·refine⟨H.os.trans b0.out.os,H.tape.trans b0.out.tape,H.output.trans b0.out.output,zY0 b0.out.size H.size,fun k O b4=> ?_⟩
        have:=b0.out.size
        exact(H.block k (show k<W4.heap.size by omega) (fun u=>b4 (.inr (by injection u)))).trans (b0.out.block k O b4)
       ·rw[x4]
        exact de i3.out (fun k O=>H.block k (bN i3.out O).2 (fun u=>by have:=(bN i3.out O).1;injection u with u;omega))
      case measure=>simp[intOf];omega
    ·obtain rfl:j=N:=by omega
     have l6: ¬(j:Int)<j:=z_
     have HE:Hid (aH wr b g n nw e (.map (some d)) (pj to fr (fF z j)) (pt to fr (fF z j)) A B E T/\(∃s',bU wr d (rp fr (fF z j)) s')/\Fr (O3 b g d) w wr):=⟨J,⟨s2,X⟩,(Fr.aF e5.out).trans (Y.wide (fun k _ q=>q.elim .inl (fun q=> .inr (.inr q))))⟩
     have HP:=aa (zN a7.out aT)
     have HO:=aa (Eh I k5)
     clear J X Y I a7 a4 HI d8
     go_wp2
     go_ret
     exact⟨fF z j,HP.out,d9.out,⟨_,rfl,HO.out⟩,HE.out⟩
  ·intro k r l w1 f5 l5 P f4 e8 f1 g8 p1 t7
   have m5:=HB.out.grown g8 HB.out.size (fun j hj=>by injection hj with hj;omega)
   have f3:(fr (k:Int)).isSome=true:=by rw[<-o2.out];exact f4
   have k9:k ∉ ts:=fun q=>by
    have:=((Q.out k).1 q).2
    rw[P] at this
    cases this
   have f6: ∀j,(Value.slice av ts.length cv).ownBlock=some j->w.heap.size<=j/\j≠w.heap.size:=fun j hj=>by
    refine⟨(bN HO.out hj).1,fun u=> ?_⟩
    rcases HO.out.2 with ⟨b3,_⟩|⟨g',n0,m8,f7,_,p9,_⟩
    ·rw[b3] at hj;cases hj
    ·rw[f7] at hj
     simp[Value.ownBlock] at hj
     subst hj
     obtain⟨es,q5,o3,s3,c0,_,_,_,_,hr,_⟩:=Z.out
     rw[<-u,p9] at hr
     cases hr
   have n6:=aa (de (w':=w1) HO.out (fun j hj=>g8.block j (bN HO.out hj).2 (fun u=>(f6 j hj).2 (by injection u))))
   have e6:=aa m5
   have h8:=aa f6
   have d0:=aa e8
   have n9:=aa f1
   have n2:=aa (n3.out k l5)
   have s0:=aa f3
   have q9:=aa k9
   have s7:=e6.out.size
   have s8:ts.length<=1024:=by
    have h1:=Ar HI.out (to:=to) ts a8.out (fun k O=>((Q.out k).1 O).1)
    have h2:=HI.out.cL
    omega
   clear m5 f3 k9 f6 e8 f1 g8 P f4 p1
   by_cases l3:k/64<=to/64
   ·have l2:((k/64:Nat):Int)<=((to/64:Nat):Int):=by omega
    generalize ((k/64:Nat):Int)=q1 at*
    generalize ((to/64:Nat):Int)=V at*
    go_wp2_with (first
     |(go_at_call 86;(have hh:=HMK.out;clear hh);refine cS (h9.out _) ?_)
     |(go_at_call 86;refine cS (n2.out _) ?_;have HMK:=aa trivial)
     |(at_builtin;refine wpList_append_own _ rfl _ _ 26 rfl w.heap.size 25 i0 (.int .u64 0) 1 8 Tryz.underlying26 l8 k2 k1 k0 rfl x_ (.slice av ts.length cv) ts.length (uv ts) rfl (by exact n6.out.alloc _) ⟨w1.heap.size,0,none⟩ 1 1 [.int .u64 k] rfl rfl (wJ _ _ _) (by simp[Value.oneCell']) (by unfold maxLen;omega) z_ (by simp;omega) ?_;intro v' w2 M C _;have m4:=(e6.out.alloc e6.out.size _).grown C (by simp;omega) (fun k O=>(h8.out k O).1);have b2:=(d0.out.alloc (.cells #[.int .u64 k] 25)).kept C (fun u=>by have:=(h8.out d u.symm).1;omega) (fun u=>(h8.out _ u.symm).2 rfl);obtain⟨u6,u4,rfl⟩:=bJ M;have q8:=aa M;have s1:=aa m4;have n5:=aa b2;clear M C m4 b2))
    go_roundw
    case rel=>
     refine⟨ts++[k],_,f5,n5.out,s1.out,by rw[List.length_append];unfold uv;rw[List.map_append];exact q8.out,?_,?_⟩
     ·rw[List.nodup_append]
      exact⟨a8.out,q_,fun a ha c hc u=>q9.out (by simp at hc;rw[<-hc,<-u];exact ha)⟩
     ·intro j
      rw[List.mem_append,Q.out j]
      simp only[List.mem_singleton,vO,Bool.and_eq_false_iff,Bool.not_eq_false',decide_eq_true_eq]
      constructor
      ·rintro(⟨q1,V⟩|rfl)
       ·exact⟨q1,.inl V⟩
       ·exact⟨⟨s0.out,l3⟩,.inr rfl⟩
      ·rintro⟨q1,V|V⟩
       ·exact .inl ⟨q1,V⟩
       ·exact .inr z_
    case measure=>rw[n5.out.left_eq,Z.out.left_eq];exact n9.out
   ·have l2: ¬((k/64:Nat):Int)<=((to/64:Nat):Int):=by omega
    generalize ((k/64:Nat):Int)=q1 at*
    generalize ((to/64:Nat):Int)=V at*
    go_wp2_with (first
     |(go_at_call 86;(have hh:=HMK.out;clear hh);refine cS (h9.out _) ?_)
     |(go_at_call 86;refine cS (n2.out _) ?_;have HMK:=aa trivial))
    go_roundw
    case rel=>
     refine⟨ts,_,f5,d0.out,e6.out,n6.out,a8.out,?_⟩
     intro j
     rw[Q.out j]
     simp only[vO,Bool.and_eq_false_iff,Bool.not_eq_false',decide_eq_true_eq]
     constructor
     ·rintro⟨q1,V⟩
      exact⟨q1,.inl V⟩
     ·rintro⟨q1,V|V⟩
      ·exact⟨q1,V⟩
      ·obtain rfl:j=k:=by omega
       exact absurd q1.2 l3
    case measure=>rw[d0.out.left_eq,Z.out.left_eq];exact n9.out
end
def ml {α:Type} (f:Nat->α) (z:α) (a:List Nat):Nat->α:=fun p=>if p∈a then z else f p
theorem iD {α:Type} (f:Nat->α) (z:α):ml f z []=f:=by rfl
def fN {α:Type} (f:Nat->α) (z:α) (a:List Nat) (q:Nat):ml f z (a++[q])=ay (ml f z a) q z:=by
 funext p
 show(if p∈a++[q] then z else f p)=if p=q then z else if p∈a then z else f p
 grind
section
variable {w:World} {b g d n nw a s:Nat} {F L A B E F' L':Nat->Nat} {T:Nat->Bool} {fr:Int->Option (Nat×Nat)} {S:List It}
def DD (e:lB S) {c:Nat} (f:nw<=c) (h:c/64=nw/64):fP nw S (nw/64*64) (c%64+1)=due c S:=by
 rw[uA e]
 unfold due
 congr 1
 funext x
 rw[Bool.eq_iff_iff]
 simp only[decide_eq_true_eq,Bool.and_eq_true]
 have j:ky nw x=x.t\/ky nw x=nw:=by unfold ky;omega
 have i:x.t<=ky nw x/\nw<=ky nw x:=by unfold ky;omega
 omega
def JI (hi:Inv n nw a F L fr A B E T S) {to:Nat} (z:nw<=to) (h:nw/64<to/64) {j:List Nat} (y:j.Pairwise (· < ·)) (q: ∀k,k∈j↔met fr to k):fP nw S (nw/64*64) 64++fB to nw S j=due to S:=by
 have m:=hi.srt
 rw[uA m]
 unfold fB
 rw[tE m nw _ (y.filter _)]
 have D:=gV (p:=fun x=>decide (ky nw x<nw/64*64+64)) (m.filter (fun x=>decide (x.t<=to))) (fun i c G r=>xZ0 (by have r:=of_decide_eq_true r;unfold ky at*;omega))
 have e:due to S=S.filter (fun x=>decide (x.t<=to)):=rfl
 rw[e,<-D,List.filter_filter,List.filter_filter]
 congr 1
 ·congr 1
  funext x
  rw[Bool.eq_iff_iff]
  simp only[decide_eq_true_eq,Bool.and_eq_true]
  have N:ky nw x=x.t\/ky nw x=nw:=by unfold ky;omega
  have C:x.t<=ky nw x/\nw<=ky nw x:=by unfold ky;omega
  omega
 ·apply List.filter_congr
  intro x v
  rw[Bool.eq_iff_iff]
  simp only[decide_eq_true_eq,List.mem_filter,Bool.and_eq_true,Bool.not_eq_true',decide_eq_false_iff_not]
  constructor
  ·rintro⟨o,u⟩
   obtain⟨k,M,J⟩:=hi.out _ ((q _).1 o).1
   unfold ky at*
   omega
  ·rintro⟨o,u⟩
   have I:nw/64<ky nw x/64:=z_
   have H:ky nw x<=to:=by unfold ky;omega
   refine⟨(q _).2 ⟨?_,z_⟩,H⟩
   rcases hi.fM (ky nw x) I with ⟨_,J⟩|⟨f,l,M,_⟩
   ·have:x∈fZ nw S (ky nw x):=dV.2 ⟨v,rfl⟩
    grind
   grind
structure AE (n nw to:Nat) (F L:Nat->Nat) (fr:Int->Option (Nat×Nat)) (F' L':Nat->Nat) (fr':Int->Option (Nat×Nat)):Prop where
 hs: ∀s,s<64->if to/64*64+s<=to then F' s=0/\L' s=0 else F' s=(lK nw F L fr (to/64*64+s)).1/\L' s=(lK nw F L fr (to/64*64+s)).2
 hf: ∀k:Nat,to/64<k/64->fr' (k:Int)=fr (k:Int)
 ho: ∀i:Int,(fr' i).isSome=true-> ∃k:Nat,i=(k:Int)/\to/64<k/64
def yV (hi:Inv n nw a F L fr A B E T S) {c:Nat} (h:c/64=nw/64):AE n nw c F L fr (je (c%64+1) F) (je (c%64+1) L) fr:=by
 refine⟨fun s o=> ?_,fun k l=>rfl,fun i j=> ?_⟩
 ·unfold je lK
  by_cases e:c/64*64+s<=c
  ·have f:s<c%64+1:=by omega
   rw[if_pos e,if_pos f,if_pos f]
   omega
  ·have f: ¬s<c%64+1:=by omega
   have m:(c/64*64+s)/64=nw/64:=z_
   rw[if_neg e,if_neg f,if_neg f,if_pos m,show(c/64*64+s)%64=s by omega]
   omega
 ·obtain⟨k,e,l⟩:=hi.out i j
  grind
def Dg (hi:Inv n nw a F L fr A B E T S) {f:Nat} (h:nw/64<f/64) {l:List Nat} (m: ∀k,k∈l↔met fr f k):AE n nw f F L fr (pj f fr l) (pt f fr l) (rp fr l):=by
 refine⟨fun s r=> ?_,fun k o=> ?_,fun i j=> ?_⟩
 ·by_cases e:f/64*64+s<=f
  ·rw[if_pos e]
   grind[Wh.pj,Wh.pt]
  ·rw[if_neg e]
   unfold pj pt lK
   rw[if_neg (c:=(f/64*64+s)/64=nw/64) z_]
   by_cases q:(f/64*64+s)∈l
   ·grind
   ·rw[if_neg y_,if_neg y_]
    have:fr ((f/64*64+s:Nat):Int)=none:=by
     cases p:fr ((f/64*64+s:Nat):Int) with
     |none=>rfl
     |some z=>exact absurd ((m _).2 ⟨y_,z_⟩) q
    grind
 ·exact D6 (fun q=>by have:=((m k).1 q).2;omega)
 ·unfold rp at j
  split at j
  ·cases j
  ·rename_i q
   obtain⟨k,e,o⟩:=hi.out i j
   refine⟨k,e,?_⟩
   apply Classical.byContradiction
   intro t
   exact q (List.mem_map.2 ⟨k,(m k).2 ⟨y_,z_⟩,e.symm⟩)
def Inv.advance (hi:Inv n nw a F L fr A B E T S) {f:Int->Option (Nat×Nat)} {c:Nat} (l:nw<=c) (r:c<18446744073709551616) (h:AE n nw c F L fr F' L' f):
  Inv n c (late c S).length F' L' f (ml A 0 (ai (due c S))) (ml B 0 (ai (due c S))) (ml E 0 (ai (due c S))) (ml T false (ai (due c S))) (late c S):=by
 have v: ∀y∈S,c<y.t->y.i+1 ∉ ai (due c S):=fun y m j q=>by
  obtain⟨z,hz,e⟩:=cl.1 q
  obtain⟨C,H⟩:=oW.1 hz
  have:=GF hi.nd C m z_
  grind
 refine hi.Qp c l r h.hs h.hf h.ho (fun y m j=> ?_) (fun p u G=> ?_)
 ·grind[Wh.ml]
 ·unfold ml
  by_cases e:p∈ai (due c S)
  ·grind
  ·rw[if_neg e,if_neg e]
   refine hi.zer p u (fun x o D=> ?_)
   by_cases k:x.t<=c
   ·exact e (cl.2 ⟨x,oW.2 ⟨o,k⟩,D⟩)
   grind
end
section
variable {w:World} {b g c n nw:Nat} {S:List It}
def oB {w:World} {a N:Nat} {k:Option Addr} {p:Nat} {d:List Nat} (h:w.ownsRow a 3 1 (.slice k N p) N (iv d)) (j:Nat) (u:j<N): ∃r,k=some (ao r)/\a<=r/\r<w.heap.size/\w.cell? (af r j)=some (ab ((d.getD j 0:Nat)-1:Int)):=by
 have i:d.length=N:=by have:=h.1;rw[LU] at this;omega
 rcases h.2 with ⟨e,x⟩|⟨r,q,f,e,o,m,t,v,s,l⟩
 ·omega
 ·cases e
  refine⟨r,rfl,o,(zW0.1 m).1,?_⟩
  have this:(f.toList.take (N*1))[j]? =(iv d)[j]? :=by rw[l]
  rw[List.getElem?_take_of_lt z_,Array.getElem?_toList] at this
  unfold World.cell?
  grind[Wh.iv]
def td (h:uF w b g c n nw S) (f:Nat) (d7:f<18446744073709551616) (O:max f nw/64=nw/64):
  aB 45 #[ak b,aj f] w fun e w'=>(∃v,e= .returned v/\w'.ownsRow w.heap.size 3 1 v (due (max f nw) S).length (iv (ai (due (max f nw) S))))/\uF w' b g c n (max f nw) (late (max f nw) S)/\Fr (O3 b g c) w w':=by
 obtain⟨R,F,L,fr,A,B,E,T,s,hr,hm,hi,a5,a4,hn⟩:=h
 obtain⟨to,b2⟩: ∃to,max f nw=to:=⟨_,rfl⟩
 rw[b2] at O|-
 have b6:nw<=to:=z_
 have ht:to<18446744073709551616:=by have:=hi.hw;omega
 have b5:max (f:Int) (nw:Int)=to:=z_
 have e0:=hr.tn
 have e5:=hr.cG
 have e3:=hr.dO
 have c9:=hm.lt
 have d1:(due to S).length<=1024:=by
  have h1:(due to S).length<=S.length:=List.length_filter_le _ _
  have h2:=hi.cL
  omega
 have c0: ∀p∈ai (due to S),p<=n:=fun p hp=>by
  obtain⟨y,hy,rfl⟩:=cl.1 hp
  have:=hi.lt y (oW.1 hy).1
  omega
 have c1:R=(due to S).length+(late to S).length:=by rw[hi.hc,<-List.length_append,vr hi.srt]
 have c8:(if f<nw then(nw:Int) else(f:Int))=(to:Int):=z_
 have c5:=aa (cE to ht)
 have a6:=aa (cE nw hi.hw)
 have Z:Hid (∀p∈ai (due to S),p≠0):=nu
 have d4:Hid (R<=1024):=by show R<=1024;rw[hi.hc];have:=hi.cL;omega
 have Y:=aa c0
 have M:=aa c1
 clear c0 c1 b5
 have b9:=DD hi.srt b6 O
 have a0:=uO hr hi hn to (to%64+1) ht y_
 rw[b9] at a0
 have a7:=aa a0
 have I:=hi.advance b6 ht (yV hi O)
 obtain⟨F',c4⟩: ∃F',je (to%64+1) F=F':=⟨_,rfl⟩
 obtain⟨L',c3⟩: ∃L',je (to%64+1) L=L':=⟨_,rfl⟩
 obtain⟨fr',G⟩: ∃fr',fr=fr':=⟨_,rfl⟩
 rw[c4,c3] at a7 I
 have u:Hid (Inv n to (late to S).length F' L' fr' (ml A 0 (ai (due to S))) (ml B 0 (ai (due to S))) (ml E 0 (ai (due to S))) (ml T false (ai (due to S))) (late to S)):=by rw[<-G];exact I
 have HM:Hid (bU w c fr' s):=by rw[<-G];exact hm
 have hq:((nw/64:Nat):Int)=((to/64:Nat):Int):=z_
 rw[hq] at a6
 clear hr hm hi b9 a0 I hq O b2 c4 c3 G
 generalize ((to/64:Nat):Int)=q1 at*
 refine ge ?_
 go_upto_region 4 with fail
 clear c8
 go_wp2_with (go_at_call 85;refine(a7.out).mono ?_;rintro e w1 ⟨⟨v1,rfl,a3⟩,a1,z⟩;obtain⟨av,cv,rfl⟩:=bJ a3;have e1:=a1.tn;have x:=aa a3;have U:=aa a1;have W:=aa (Exists.intro s (HM.out.block (z.block c c9 (fun e=>a5 e.symm) (fun e=>a4 e.symm))));have X:=aa (Fr.jS (S:=O3 b g c) z (.inl rfl) (.inr (.inl rfl)));clear a3 a1 z)
 go_region_held3 (fun w'=>w'.cell? (ao b)=some (aj nw)) (go_keep)
  (first
   | (go_at_call 86;first
     |(refine(c5.out _).mono ?_;rintro e wx ⟨rfl,hw⟩;subst hw)
     |(refine cS (a6.out _) ?_)))
 go_wp2
 replace x:Hid (w1.drew.ownsRow w.heap.size 3 1 (.slice av (due to S).length cv) (due to S).length (iv (ai (due to S)))):=de x.out (fun _ _=>rfl)
 replace U:=aa U.out.drew
 replace W:Hid (∃s',bU w1.drew c fr' s'):=by obtain⟨s',q⟩:=W.out;exact⟨s',q.block rfl⟩
 replace X:=aa X.out.drew
 clear e1 e0 a7 c5 a6 HM
 obtain⟨ps,o⟩: ∃ps,ai (due to S)=ps:=⟨_,rfl⟩
 have a2:ps.length=(due to S).length:=by rw[<-o,dA]
 obtain⟨N,hN⟩: ∃N,(due to S).length=N:=⟨_,rfl⟩
 rw[o] at x u Y Z
 have d3:=aa o
 rw[hN] at x M d1 a2|-
 have V:=aa a2
 have a9:=aa hN
 clear a2 o hN
 obtain⟨c',c2⟩: ∃c',(late to S).length=c':=⟨_,rfl⟩
 rw[c2] at u M
 clear c2
 go_loopw [34] (fun c7 wr=> ∃j:Nat,j<=N/\c7=ab j/\aH wr b g n nw R (.map (some c)) F' L' (ml A 0 (ps.take j)) (ml B 0 (ps.take j)) (ml E 0 (ps.take j)) (ml T false (ps.take j))/\(∃s',bU wr c fr' s')/\Fr (O3 b g c) w wr/\wr.ownsRow w.heap.size 3 1 (.slice av N cv) N (iv ps)) (fun i _=>N-(intOf i).toNat)
 case atStart=>exact⟨0,z_,rfl,by rw[List.take_zero,iD,iD,iD,iD];exact U.out,W.out,X.out,x.out⟩
 case round=>
  obtain⟨j,hj,rfl,d,⟨s2,P⟩,Q,l⟩:=hrel
  clear U W X x
  by_cases d0:j<N
  ·obtain⟨r,rfl,d9,d8,H⟩:=oB l j d0
   have b7:j<ps.length:=by have:=V.out;omega
   have b4:ps.getD j 0=ps[j]:=y_
   have C:ps[j]∈ps:=List.getElem_mem _
   have m:=Y.out _ C
   obtain⟨q,hq⟩: ∃q,ps[j]=q+1:=⟨ps[j]-1,by have:=Z.out _ C;omega⟩
   rw[b4,hq] at H
   rw[hq] at m
   have c6:wr.cell? (af r j)=some (ab q):=by
    grind
   have b3:ps.take (j+1)=ps.take j++[q+1]:=by rw[List.take_succ_eq_append_getElem b7,hq]
   have e2:=a9.out
   obtain⟨cp,en⟩:=d.en
   have n0:=d.ea (q+1) m;have n1:=d.eb (q+1) m;have n2:=d.ee (q+1) m;have n3:=d.et (q+1) m
   have fg:=d.fg
   have b8:(j:Int)<N:=z_
   have J:Hid (aH ((((wr.setCell (af g ((q+1)*4)) (ab 0)).setCell (af g ((q+1)*4+1)) (ab 0)).setCell (af g ((q+1)*4+2)) (aj 0)).setCell (af g ((q+1)*4+3)) (.bool false)) b g n nw R (.map (some c)) F' L' (ml A 0 (ps.take (j+1))) (ml B 0 (ps.take (j+1))) (ml E 0 (ps.take (j+1))) (ml T false (ps.take (j+1)))):=by
    rw[b3,fN,fN,fN,fN]
    exact(((d.gk (q+1) m 0).gd (q+1) m 0).Me (q+1) m 0).nX (q+1) m false
   have t: ∀k,k≠g->((((wr.setCell (af g ((q+1)*4)) (ab 0)).setCell (af g ((q+1)*4+1)) (ab 0)).setCell (af g ((q+1)*4+2)) (aj 0)).setCell (af g ((q+1)*4+3)) (.bool false)).heap[k]? =wr.heap[k]? :=fun k D=>by rw[zZ0 _ _ _ _ D,zZ0 _ _ _ _ D,zZ0 _ _ _ _ D,zZ0 _ _ _ _ D]
   have b0:=aa (P.block (t c (fun e=>a4 e.symm)))
   have b1:=aa ((((Q.setCell (a:=(af g ((q+1)*4))) (.inr (.inl rfl)) (ab 0)).setCell (a:=(af g ((q+1)*4+1))) (.inr (.inl rfl)) (ab 0)).setCell (a:=(af g ((q+1)*4+2))) (.inr (.inl rfl)) (aj 0)).setCell (a:=(af g ((q+1)*4+3))) (.inr (.inl rfl)) (.bool false))
   have a8:=aa (de l (fun k D=>t k (by have:=(bN l D).1;omega)))
   have ql:q+1<n+1:=z_
   have qb:q<=1024:=z_
   clear d P Q l H b7 b4 C m hq b3 t M u V a9 Y Z
   go_wp2
   go_roundw
   case rel=>exact⟨j+1,z_,by go_num,J.out,⟨_,b0.out⟩,b1.out,a8.out⟩
   case measure=>simp[intOf];omega
  ·obtain rfl:j=N:=by omega
   have b8: ¬(j:Int)<j:=z_
   have d2:=M.out
   have e7:=d.tc
   have e6:=d.tn
   have fb:=d.fb
   have o:ps.take j=ps:=List.take_of_length_le (by have:=V.out;omega)
   rw[o] at d
   have e4:R<=1024+1024:=by have:=d4.out;omega
   have d6:IntKind.i64.wrap ((R:Int)-j)=(c':Int):=by rw[show((R:Int)-j)=(c':Int) by omega];simp[IntKind.wrap,IntKind.bits,IntKind.signed];omega
   have d5:(R:Int)-j=(c':Int):=z_
   have J:=aa<|(d.xA c').NM to
   have t: ∀k,k≠b->((wr.setCell (af b 131) (ab c')).setCell (ao b) (aj to)).heap[k]? =wr.heap[k]? :=fun k D=>by rw[zZ0 _ _ _ _ D,zZ0 _ _ _ _ D]
   have b0:=aa (P.block (t c (fun e=>a5 e.symm)))
   have b1:=aa ((Q.setCell (a:=(af b 131)) (.inl rfl) (ab c')).setCell (a:=(ao b)) (.inl rfl) (aj to))
   have a8:=aa (de l (fun k D=>t k (by have:=(bN l D).1;omega)))
   clear d P Q l o t M V Y Z d2
   go_wp2
   go_ret
   exact⟨⟨_,rfl,by rw[a9.out,d3.out];exact a8.out⟩,⟨c',F',L',fr',_,_,_,_,s2,J.out,b0.out,u.out,a5,a4,hn⟩,b1.out⟩
def yN (h:uF w b g c n nw S) (m:Nat) (hS:Ej m) (h4:n<=m) (l:Nat) (h3:l<18446744073709551616):
  aB 45 #[ak b,aj l] w fun e w'=>(∃v,e= .returned v/\w'.ownsRow w.heap.size 3 1 v (due (max l nw) S).length (iv (ai (due (max l nw) S))))/\uF w' b g c n (max l nw) (late (max l nw) S)/\Fr (O3 b g c) w w':=by
 by_cases O:max l nw/64=nw/64
 ·exact td h l h3 O
 obtain⟨P,F,L,V,A,B,E,T,s,hr,hm,hi,b1,a8,hn⟩:=h
 obtain⟨to,d7⟩: ∃to,max l nw=to:=⟨_,rfl⟩
 rw[d7] at O|-
 have h0:=O
 clear O
 have e5:nw<=to:=z_
 have ht:to<18446744073709551616:=z_
 have e4:max (l:Int) (nw:Int)=to:=z_
 have e0:=hr.tn
 have k4:=hr.cG
 have k2:=hr.dO
 have h7:=hm.lt
 have h9:(due to S).length<=1024:=by
  have h1:(due to S).length<=S.length:=List.length_filter_le _ _
  have h2:=hi.cL
  omega
 have e8: ∀p∈ai (due to S),p<=n:=fun p hp=>by
  obtain⟨y,hy,rfl⟩:=cl.1 hp
  have:=hi.lt y (oW.1 hy).1
  omega
 have e9:P=(due to S).length+(late to S).length:=by rw[hi.hc,<-List.length_append,vr hi.srt]
 have h6:(if l<nw then(nw:Int) else(l:Int))=(to:Int):=z_
 have f4:=aa (cE to ht)
 have f3:=aa (cE nw hi.hw)
 have b6:Hid (∀p∈ai (due to S),p≠0):=nu
 have i3:Hid (P<=1024):=by show P<=1024;rw[hi.hc];have:=hi.cL;omega
 have b5:=aa e8
 have a6:=aa e9
 clear e8 e9 e4
 have a7:nw/64<to/64:=z_
 have c9:=aa (uO hr hi hn to 64 ht y_)
 have hz: ∀X:Nat->Nat,∀W,aH W b g n nw P (.map (some c)) (je 64 F) (je 64 L) A B E T->aH W b g n nw P (.map (some c)) (fun _=>0) (fun _=>0) A B E T:=fun _ W R=>by
  refine⟨R.bg,R.en,R.tn,R.tm,R.tc,fun x hx=> ?_,fun x hx=> ?_,R.ea,R.eb,R.ee,R.et,R.fb,R.fg⟩
  ·have:=R.sf x hx;unfold je at this;grind
  ·have:=R.sl x hx;unfold je at this;grind
 have d4:Hid (∀W,aH W b g n nw P (.map (some c)) (je 64 F) (je 64 L) A B E T->bU W c V s->aB 87 #[ak b,aj to] W fun e w'=> ∃u:List Nat,Hid (fP nw S (nw/64*64) 64++fB to nw S u=due to S/\AE n nw to F L V (pj to V u) (pt to V u) (rp V u))/\(∃v,e= .returned v/\w'.ownsRow W.heap.size 3 1 v (fB to nw S u).length (iv (ai (fB to nw S u))))/\
  aH w' b g n nw P (.map (some c)) (pj to V u) (pt to V u) A B E T/\(∃s',bU w' c (rp V u) s')/\Fr (O3 b g c) W w'):=fun W h1 h2=>by
  refine(EN (hz F W h1) rfl rfl h2 hi b1 a8 hn m hS h4 to ht a7).mono ?_
  rintro e w' ⟨u,q1,q2,q3⟩
  exact⟨u,⟨JI hi e5 a7 q1 q2,Dg hi a7 q2⟩,q3⟩
 have HI:=aa hi
 have HM:=aa hm
 have e3:(((to/64:Nat):Int) !=((nw/64:Nat):Int))=true:=y_
 have h5: ¬((to/64:Nat):Int)=((nw/64:Nat):Int):=z_
 have c8:Hid ((fP nw S (nw/64*64) 64).length<=1024):=by
  have h1:=xm (nw:=nw) hi.srt (nw/64*64) 64
  have h2:=hi.cL
  show _<=1024
  omega
 obtain⟨U,hU⟩: ∃U,fP nw S (nw/64*64) 64=U:=⟨_,rfl⟩
 rw[hU] at c9 d4 c8
 clear hr hm hi a7 h0 d7 hU hz
 generalize ((to/64:Nat):Int)=q1 at*
 generalize ((nw/64:Nat):Int)=q2 at*
 refine ge ?_
 go_upto_region 4 with fail
 clear h6
 go_wp2_with (go_at_call 85;refine(c9.out).mono ?_;rintro e w1 ⟨⟨v1,rfl,c4⟩,c1,Y⟩;obtain⟨f2,f1,rfl⟩:=bJ c4;have e1:=c1.tn;have g0:=aa c4;have f7:=aa c1;have g4:=aa (HM.out.block (Y.block c h7 (fun e=>b1 e.symm) (fun e=>a8 e.symm)));have d5:=aa (Fr.jS (S:=O3 b g c) Y (.inl rfl) (.inr (.inl rfl)));clear c4 c1 Y)
 go_region_held3 (fun w'=>w'.cell? (ao b)=some (aj nw)) (go_keep)
  (first
   | (go_at_call 86;first
     |(refine(f4.out _).mono ?_;rintro e wx ⟨rfl,hw⟩;subst hw)
     |(refine cS (f3.out _) ?_)))
 have C:Hid (w1.drew.ownsRow w.heap.size 3 1 (.slice f2 U.length f1) U.length (iv (ai U))):=de g0.out (fun _ _=>rfl)
 have b8:=aa f7.out.drew
 have b9:Hid (bU w1.drew c V s):=g4.out.block rfl
 have c0:=aa d5.out.drew
 have g9:=c8.out
 have d6:=d5.out.size
 clear e1 e0 c9 f4 f3 HM g0 f7 g4 d5 c8
 go_wp2_with (first
  |(go_at_call 87;refine(d4.out _ b8.out b9.out).mono ?_;rintro e w2 ⟨u,HX,⟨v2,rfl,c3⟩,d9,H,b0⟩;obtain⟨k8,k7,rfl⟩:=bJ c3;have c7:=aa<|de C.out (fun k z=>b0.block k (bN C.out z).2 (fun q=>by have:=(bN C.out z).1;rcases q with q|q|q<;>omega));have f9:=aa c3;have b2:=aa d9;have g3:=aa H;have M:=aa (c0.out.trans b0);have i0:(fB to nw S u).length<=1024:=(by have h1:=congrArg List.length HX.out.1;grind);have b7:=b0.size;clear c3 d9 H b0)
  |(at_builtin;(have hh:=c7.out;clear hh);refine dq _ rfl _ _ rfl w.heap.size _ _ _ _ _ _ _ rfl c7.out rfl f9.out (tD _) z_ (zY0 d6 b7) ?_;intro v' w6 G f;obtain⟨av,cv,rfl⟩:=bJ G;have a1: ∀k,(Value.slice f2 U.length f1).ownBlock=some k->w.heap.size<=k:=(fun k z=>(bN C.out z).1);have f8:=aa G;have f6:=aa (b2.out.kept (f.block b b2.out.cG (fun e=>by have:=a1 b e.symm;omega)) (f.block g b2.out.dO (fun e=>by have:=a1 g e.symm;omega)));have g2:Hid (∃s',bU w6 c (rp V u) s'):=(by obtain⟨s',q⟩:=g3.out;exact⟨s',q.block (f.block c q.lt (fun e=>by have:=a1 c e.symm;omega))⟩);have g6:Hid (Fr (O3 b g c) w w6):=⟨f.os.trans M.out.os,f.tape.trans M.out.tape,f.output.trans M.out.output,zY0 M.out.size f.size,fun k z hn=>(f.block k (i8 z M.out.size) (fun e=>by have:=a1 k e.symm;omega)).trans (M.out.block k z hn)⟩;clear G f a1))
 have a4:=HI.out.advance e5 ht HX.out.2
 have I:U.length+(fB to nw S u).length=(due to S).length:=by rw[<-HX.out.1,List.length_append]
 have b4:Hid (w6.ownsRow w.heap.size 3 1 (.slice av (due to S).length cv) (due to S).length (iv (ai (due to S)))):=by
  have q:=f8.out
  rw[<-iU,<-dW,HX.out.1,I] at q
  exact q
 have a0:(U.length:Int)+((fB to nw S u).length:Int)=((due to S).length:Int):=z_
 rw[I,a0]
 clear a0
 obtain⟨F',c6⟩: ∃F',pj to V u=F':=⟨_,rfl⟩
 obtain⟨L',c5⟩: ∃L',pt to V u=L':=⟨_,rfl⟩
 obtain⟨fr',a2⟩: ∃fr',rp V u=fr':=⟨_,rfl⟩
 rw[c6,c5,a2] at a4
 have Q:=aa a4
 have f5:Hid (aH w6 b g n nw P (.map (some c)) F' L' A B E T):=by rw[<-c6,<-c5];exact f6.out
 have g1:Hid (∃s',bU w6 c fr' s'):=by rw[<-a2];exact g2.out
 have g5:=g6
 clear a4 I f8 f6 g2 g6 c6 c5 a2 HX HI d4 C b8 b9 c0 g9 d6 i0 b7 c7 f9 b2 g3 M h5 e3
 obtain⟨ps,D⟩: ∃ps,ai (due to S)=ps:=⟨_,rfl⟩
 have c2:ps.length=(due to S).length:=by rw[<-D,dA]
 obtain⟨N,hN⟩: ∃N,(due to S).length=N:=⟨_,rfl⟩
 rw[D] at b4 Q b5 b6
 have i2:=aa D
 rw[hN] at b4 a6 h9 c2|-
 have b3:=aa c2
 have d1:=aa hN
 clear c2 D hN
 obtain⟨c',f0⟩: ∃c',(late to S).length=c':=⟨_,rfl⟩
 rw[f0] at Q a6
 clear f0
 go_loopw [34] (fun g8 wr=> ∃j:Nat,j<=N/\g8=ab j/\aH wr b g n nw P (.map (some c)) F' L' (ml A 0 (ps.take j)) (ml B 0 (ps.take j)) (ml E 0 (ps.take j)) (ml T false (ps.take j))/\(∃s',bU wr c fr' s')/\Fr (O3 b g c) w wr/\wr.ownsRow w.heap.size 3 1 (.slice av N cv) N (iv ps)) (fun i _=>N-(intOf i).toNat)
 case atStart=>exact⟨0,z_,rfl,by rw[List.take_zero,iD,iD,iD,iD];exact f5.out,g1.out,g5.out,b4.out⟩
 case round=>
  obtain⟨j,hj,rfl,d,⟨s2,H⟩,a9,o⟩:=hrel
  clear f5 g1 g5 b4
  by_cases h8:j<N
  ·obtain⟨r,rfl,k0,j2,a3⟩:=oB o j h8
   have e6:j<ps.length:=by have:=b3.out;omega
   have e2:ps.getD j 0=ps[j]:=y_
   have Z:ps[j]∈ps:=List.getElem_mem _
   have t:=b5.out _ Z
   obtain⟨q,hq⟩: ∃q,ps[j]=q+1:=⟨ps[j]-1,by have:=b6.out _ Z;omega⟩
   rw[e2,hq] at a3
   rw[hq] at t
   have g7:wr.cell? (af r j)=some (ab q):=by
    grind
   have d8:ps.take (j+1)=ps.take j++[q+1]:=by rw[List.take_succ_eq_append_getElem e6,hq]
   have k1:=d1.out
   obtain⟨cp,en⟩:=d.en
   have n0:=d.ea (q+1) t;have n1:=d.eb (q+1) t;have n2:=d.ee (q+1) t;have n3:=d.et (q+1) t
   have fg:=d.fg
   have e7:(j:Int)<N:=z_
   have a5:Hid (aH ((((wr.setCell (af g ((q+1)*4)) (ab 0)).setCell (af g ((q+1)*4+1)) (ab 0)).setCell (af g ((q+1)*4+2)) (aj 0)).setCell (af g ((q+1)*4+3)) (.bool false)) b g n nw P (.map (some c)) F' L' (ml A 0 (ps.take (j+1))) (ml B 0 (ps.take (j+1))) (ml E 0 (ps.take (j+1))) (ml T false (ps.take (j+1)))):=by
    rw[d8,fN,fN,fN,fN]
    exact(((d.gk (q+1) t 0).gd (q+1) t 0).Me (q+1) t 0).nX (q+1) t false
   have J: ∀k,k≠g->((((wr.setCell (af g ((q+1)*4)) (ab 0)).setCell (af g ((q+1)*4+1)) (ab 0)).setCell (af g ((q+1)*4+2)) (aj 0)).setCell (af g ((q+1)*4+3)) (.bool false)).heap[k]? =wr.heap[k]? :=fun k z=>by rw[zZ0 _ _ _ _ z,zZ0 _ _ _ _ z,zZ0 _ _ _ _ z,zZ0 _ _ _ _ z]
   have d2:=aa (H.block (J c (fun e=>a8 e.symm)))
   have d3:=aa ((((a9.setCell (a:=(af g ((q+1)*4))) (.inr (.inl rfl)) (ab 0)).setCell (a:=(af g ((q+1)*4+1))) (.inr (.inl rfl)) (ab 0)).setCell (a:=(af g ((q+1)*4+2))) (.inr (.inl rfl)) (aj 0)).setCell (a:=(af g ((q+1)*4+3))) (.inr (.inl rfl)) (.bool false))
   have d0:=aa (de o (fun k z=>J k (by have:=(bN o z).1;omega)))
   have ql:q+1<n+1:=z_
   have qb:q<=1024:=z_
   clear d H a9 o a3 e6 e2 Z t hq d8 J a6 Q b3 d1 b5 b6
   go_wp2
   go_roundw
   case rel=>exact⟨j+1,z_,by go_num,a5.out,⟨_,d2.out⟩,d3.out,d0.out⟩
   case measure=>simp[intOf];omega
  ·obtain rfl:j=N:=by omega
   have e7: ¬(j:Int)<j:=z_
   have i1:=a6.out
   have k6:=d.tc
   have k5:=d.tn
   have fb:=d.fb
   have D:ps.take j=ps:=List.take_of_length_le (by have:=b3.out;omega)
   rw[D] at d
   have k3:P<=1024+1024:=by have:=i3.out;omega
   have j1:IntKind.i64.wrap ((P:Int)-j)=(c':Int):=by rw[show((P:Int)-j)=(c':Int) by omega];simp[IntKind.wrap,IntKind.bits,IntKind.signed];omega
   have j0:(P:Int)-j=(c':Int):=z_
   have a5:=aa<|(d.xA c').NM to
   have J: ∀k,k≠b->((wr.setCell (af b 131) (ab c')).setCell (ao b) (aj to)).heap[k]? =wr.heap[k]? :=fun k z=>by rw[zZ0 _ _ _ _ z,zZ0 _ _ _ _ z]
   have d2:=aa (H.block (J c (fun e=>b1 e.symm)))
   have d3:=aa ((a9.setCell (a:=(af b 131)) (.inl rfl) (ab c')).setCell (a:=(ao b)) (.inl rfl) (aj to))
   have d0:=aa (de o (fun k z=>J k (by have:=(bN o z).1;omega)))
   clear d H a9 o D J a6 b3 b5 b6 i1
   go_wp2
   go_ret
   exact⟨⟨_,rfl,by rw[d1.out,i2.out];exact d0.out⟩,⟨c',F',L',fr',_,_,_,_,s2,a5.out,d2.out,Q.out,b1,a8,hn⟩,d3.out⟩
end
end Go.Proofs.YtnmhcgpnhlhcgaaGreatDoor.Wh
namespace Go.Proofs.YtnmhcgpnhlhcgaaGreatDoor.Wh
open Go.RowKit Go.Lib
attribute [local go_sem ↓] Go.wp_at_zero Go.wp_at_succ
def Hr (n:Nat) (w:World) (x:1<=n) (q:n<=1024):
  aB 37 #[ab n] w fun e w'=> ∃b g f,e= .returned (ak b)/\(∀k,O3 b g f k->w.heap.size<=k/\k<w'.heap.size)/\uF w' b g f n 0 []/\aC w w':=by
 obtain⟨h,hi,c,a,d⟩:=info_parts CZ
 have o: ∀w,(Instr.makeSlice 172 (ab ((n:Int)+1)) (ab ((n:Int)+1))).run Tryz.prog w= .ok (.slice (some (ao w.heap.size)) (n+1) (n+1)) (w.alloc (.cells (cm n) 196)):=by
  intro w
  have:=run_make w 172 196 h kH Tryz.underlying172 hi c .i64 .i64 ((n:Int)+1) ((n:Int)+1) z_ z_ y_ z_
  rw[a,show((n:Int)+1).toNat=n+1 by omega] at this
  exact this
 have r:Hid (uF (((w.alloc (.map #[] 0)).alloc (.cells (cm n) 196)).alloc (.cells (bw w.heap.size (w.heap.size+1) n) 177)) (w.heap.size+1+1) (w.heap.size+1) w.heap.size n 0 []):=by
  refine⟨0,_,_,fun _=>none,_,_,_,_,0,jl w n,?_,?_,z_,z_,q⟩
  ·refine(bU.made w).block ?_
   rw[zU0 _ _ _ (by simp;omega),zU0 _ _ _ q_]
  ·refine⟨List.Pairwise.nil,List.nodup_nil,q_,q_,z_,rfl,fun s t=>⟨rfl,rfl,trivial⟩,fun k v=> .inl ⟨rfl,rfl⟩,fun i hi=>(by cases hi),q_,fun p u _=>⟨rfl,rfl⟩⟩
 have j:=Lq
 have l:=iS
 have m:= @run_makeMap Tryz.prog
 clear hi c a d
 refine ge ?_
 go_wp2
 go_ret
 refine⟨_,_,_,rfl,?_,r.out,(bq.alloc q_ _).alloc (by simp;omega) _⟩
 rintro k (rfl|rfl|rfl)<;>simp<;>omega
end Go.Proofs.YtnmhcgpnhlhcgaaGreatDoor.Wh

/- YtnmhcgpnhlhcgaaGreatDoorGk: of the texts V1 Wa1 Wa0 Wa2 V2 V3 Wa3 Wa4 Wa5 Wa6 Wa7 Wa8 Wa9 Wb1 Wb2 Wb3 Wb4 Wb5 Wb6 Wg1 what is wanted. -/
import Derived.Test.YtnmhcgpnhlhcgaaGreatDoorG0
import Derived.Test.YtnmhcgpnhlhcgaaGreatDoorRows
import Derived.WalkKit
import Derived.Below
import Derived.WalkSpells
import Derived.WalkLawsBesides
import Derived.StillTactics
import Derived.RegionTactic
import Derived.RowKit3
import Derived.Laws.MakeOwn
import Derived.OwnWalk
import Derived.Deep.QuietTactic
import Derived.BigQuiet
import Derived.Maps.OwnSet
import Derived.Maps.RangeWalk
import Derived.Deep.RegionHeld3
import Derived.Deep.DrawnRows
import Derived.Lib.SmallJoins
import Derived.Maps.Own
import Derived.Deep.Cut
import Derived.Laws.OwnMore
import Derived.Laws.IdiomCopy
import Derived.Sort.OwnSorted
set_option maxHeartbeats 16000000
set_option maxRecDepth 100000
set_option linter.unusedVariables false
set_option linter.unusedSimpArgs false
namespace Go.Proofs.YtnmhcgpnhlhcgaaGreatDoor.Wh
open Go.RowKit
structure Rep (w:World) (b g n nw ct:Nat) (fm:Value) (F L A B E:Nat→Nat) (T:Nat→Bool):Prop where
 bg:b≠g
 en: ∃cp,w.cell? (vAt b 130)=some (.slice (some (vA0 g)) (n+1) cp)
 tn:w.cell? (vA0 b)=some (vU6 (nw:Int))
 tm:w.cell? (vAt b 129)=some (fm)
 tc:w.cell? (vAt b 131)=some (vI6 (ct:Int))
 sf: ∀x,x<64→w.cell? (vAt b (1+x*2))=some (vI6 ((F x:Nat):Int))
 sl: ∀x,x<64→w.cell? (vAt b (1+x*2+1))=some (vI6 ((L x:Nat):Int))
 ea: ∀x,x≤n→w.cell? (vAt g (x*4))=some (vI6 ((A x:Nat):Int))
 eb: ∀x,x≤n→w.cell? (vAt g (x*4+1))=some (vI6 ((B x:Nat):Int))
 ee: ∀x,x≤n→w.cell? (vAt g (x*4+2))=some (vU6 ((E x:Nat):Int))
 et: ∀x,x≤n→w.cell? (vAt g (x*4+3))=some (.bool (T x))
 fb: ∀o,w.frozen? (vAt b o)=false
 fg: ∀o,w.frozen? (vAt g o)=false
section
variable {w:World} {b g n nw ct:Nat} {fm:Value} {F L A B E:Nat→Nat} {T:Nat→Bool}
theorem Rep.lt_b (h:Rep w b g n nw ct fm F L A B E T):b<w.heap.size:=World.block_lt_of_cell? w (vA0 b) h.tn
theorem Rep.lt_g (h:Rep w b g n nw ct fm F L A B E T):g<w.heap.size:=World.block_lt_of_cell? w (vAt g (0*4)) (h.ea 0 (Nat.zero_le _))
theorem Rep.kept {w':World} (h:Rep w b g n nw ct fm F L A B E T) (hb:w'.heap[b]? =w.heap[b]?) (hg:w'.heap[g]? =w.heap[g]?):Rep w' b g n nw ct fm F L A B E T:=by
 have:=grB hb
 have:=grB hg
 exact mK
theorem Rep.like {w':World} (h:Rep w b g n nw ct fm F L A B E T) (e:w'.heap=w.heap):Rep w' b g n nw ct fm F L A B E T:=h.kept (by rw[e]) (by rw[e])
theorem Rep.drew (h:Rep w b g n nw ct fm F L A B E T):Rep w.drew b g n nw ct fm F L A B E T:=h.like rfl
theorem Rep.below (h:Rep w b g n nw ct fm F L A B E T) {w':World} (hw:vBw w w'):Rep w' b g n nw ct fm F L A B E T:=h.kept (hw.block b h.lt_b) (hw.block g h.lt_g)
theorem Rep.alloc (h:Rep w b g n nw ct fm F L A B E T) (o:Obj):Rep (w.alloc o) b g n nw ct fm F L A B E T:=h.below (bzR.alloc lzr o)
theorem Rep.setW (h:Rep w b g n nw ct fm F L A B E T) (v:Nat):Rep (w.setCell (vA0 b) (vU6 (v:Int))) b g n v ct fm F L A B E T:=mK
theorem Rep.setN (h:Rep w b g n nw ct fm F L A B E T) (v:Nat):Rep (w.setCell (vAt b 131) (vI6 (v:Int))) b g n nw v fm F L A B E T:=mK
theorem Rep.setF (h:Rep w b g n nw ct fm F L A B E T) (p:Nat) (hp:p<64) (v:Nat):Rep (w.setCell (vAt b (1+p*2)) (vI6 (v:Int))) b g n nw ct fm (upd F p v) L A B E T:=mK
theorem Rep.setL (h:Rep w b g n nw ct fm F L A B E T) (p:Nat) (hp:p<64) (v:Nat):Rep (w.setCell (vAt b (1+p*2+1)) (vI6 (v:Int))) b g n nw ct fm F (upd L p v) A B E T:=mK
theorem Rep.setA (h:Rep w b g n nw ct fm F L A B E T) (p:Nat) (hp:p≤n) (v:Nat):Rep (w.setCell (vAt g (p*4)) (vI6 (v:Int))) b g n nw ct fm F L (upd A p v) B E T:=mK
theorem Rep.setB (h:Rep w b g n nw ct fm F L A B E T) (p:Nat) (hp:p≤n) (v:Nat):Rep (w.setCell (vAt g (p*4+1)) (vI6 (v:Int))) b g n nw ct fm F L A (upd B p v) E T:=mK
theorem Rep.setE (h:Rep w b g n nw ct fm F L A B E T) (p:Nat) (hp:p≤n) (v:Nat):Rep (w.setCell (vAt g (p*4+2)) (vU6 (v:Int))) b g n nw ct fm F L A B (upd E p v) T:=mK
theorem Rep.setT (h:Rep w b g n nw ct fm F L A B E T) (p:Nat) (hp:p≤n) (v:Bool):Rep (w.setCell (vAt g (p*4+3)) (.bool v)) b g n nw ct fm F L A B E (upd T p v):=mK
end
end Go.Proofs.YtnmhcgpnhlhcgaaGreatDoor.Wh
namespace Go.Proofs.YtnmhcgpnhlhcgaaGreatDoor.Wh
structure It where
 i:Nat
 t:Nat
def Srt (S:List It):Prop:=S.Pairwise (fun a c=>a.t≤c.t)
def ins (x:It) (S:List It):List It:=S.filter (fun y=>decide (y.t≤x.t))++x::S.filter (fun y=> !decide (y.t≤x.t))
def ky (nw:Nat) (x:It):Nat:=max x.t nw
def grp (nw:Nat) (S:List It) (k:Nat):List It:=S.filter (fun x=>ky nw x==k)
def due (to:Nat) (S:List It):List It:=S.filter (fun x=>decide (x.t≤to))
def late (to:Nat) (S:List It):List It:=S.filter (fun x=> !decide (x.t≤to))
def spots (S:List It):List Nat:=S.map (fun x=>x.i+1)
section
variable {S:List It} {x:It} {p:It→Bool}
theorem Srt.filter (h:Srt S) (q:It→Bool):Srt (S.filter q):=List.Pairwise.filter q h
theorem split_down: ∀{S:List It},Srt S→(∀a c:It,a.t≤c.t→p c=true→p a=true)→S.filter p++S.filter (fun y=> !p y)=S
 |[],_,_=>rfl
 |a::S,h,hp=>by
  obtain⟨h1,h2⟩:=List.pairwise_cons.1 h
  cases hq:p a with
  |true=>simp[hq,split_down h2 hp]
  |false=>
   have e: ∀y∈S,p y=false:=fun y hy=>by
    grind
   have e1:S.filter p=[]:=(by simp_all)
   have e2:S.filter (fun y=> !p y)=S:=(by simp_all)
   grind
theorem split_at (h:Srt S) (a:Nat):S.filter (fun y=>decide (y.t≤a))++S.filter (fun y=> !decide (y.t≤a))=S:=
 split_down h (by grind)
theorem due_late (h:Srt S) (to:Nat):due to S++late to S=S:=split_at h to
theorem Srt.ins (h:Srt S) (x:It):Srt (ins x S):=by
 refine List.pairwise_append.2 ⟨h.filter _,List.pairwise_cons.2 ⟨fun y hy=> ?_,h.filter _⟩,fun a ha c hc=> ?_⟩
 ·grind
 grind
theorem mem_ins {y:It}:y∈Go.Proofs.YtnmhcgpnhlhcgaaGreatDoor.Wh.ins x S↔y=x∨y∈S:=by
 grind[Wh.ins]
theorem ins_perm (h:Srt S):(Go.Proofs.YtnmhcgpnhlhcgaaGreatDoor.Wh.ins x S).Perm (x::S):=by
 have e:Go.Proofs.YtnmhcgpnhlhcgaaGreatDoor.Wh.ins x S=S.filter (fun y=>decide (y.t≤x.t))++x::S.filter (fun y=> !decide (y.t≤x.t)):=rfl
 rw[e]
 refine List.perm_middle.trans ?_
 rw[split_at h]
theorem ins_length (h:Srt S):(Go.Proofs.YtnmhcgpnhlhcgaaGreatDoor.Wh.ins x S).length=S.length+1:=by rw[(ins_perm h).length_eq];rfl
theorem filter_ins (h:Srt S) (q:It→Bool):(Go.Proofs.YtnmhcgpnhlhcgaaGreatDoor.Wh.ins x S).filter q=if q x then Go.Proofs.YtnmhcgpnhlhcgaaGreatDoor.Wh.ins x (S.filter q) else S.filter q:=by
 have e:Go.Proofs.YtnmhcgpnhlhcgaaGreatDoor.Wh.ins x S=S.filter (fun y=>decide (y.t≤x.t))++x::S.filter (fun y=> !decide (y.t≤x.t)):=rfl
 have e':Go.Proofs.YtnmhcgpnhlhcgaaGreatDoor.Wh.ins x (S.filter q)=(S.filter q).filter (fun y=>decide (y.t≤x.t))++x::(S.filter q).filter (fun y=> !decide (y.t≤x.t)):=rfl
 have c1: ∀(a b:It→Bool),(S.filter a).filter b=(S.filter b).filter a:=fun a b=>by
  rw[List.filter_filter,List.filter_filter]
  grind
 rw[e,e',List.filter_append,c1 _ q,List.filter_cons,c1 _ q]
 by_cases hq:q x=true
 ·grind
 ·rw[if_neg hq,if_neg hq]
  exact split_at (h.filter q) _
theorem grp_ins (h:Srt S) (nw k:Nat):grp nw (Go.Proofs.YtnmhcgpnhlhcgaaGreatDoor.Wh.ins x S) k=if ky nw x=k then Go.Proofs.YtnmhcgpnhlhcgaaGreatDoor.Wh.ins x (grp nw S k) else grp nw S k:=by
 grind[Wh.grp,Wh.filter_ins]
def upTo (nw:Nat) (S:List It) (lo:Nat):Nat→List It
 |0=>[]
 |m+1=>upTo nw S lo m++grp nw S (lo+m)
theorem upTo_eq (h:Srt S) (nw lo m:Nat):upTo nw S lo m=S.filter (fun x=>decide (lo≤ky nw x)&&decide (ky nw x<lo+m)):=by
 induction m with
 |zero=>
  unfold upTo
  simp
 |succ m ih=>
  unfold upTo
  rw[ih]
  have hs:=split_down (p:=fun x=>decide (ky nw x<lo+m)) (h.filter (fun x=>decide (lo≤ky nw x)&&decide (ky nw x<lo+(m+1)))) (fun a c hac hc=>decide_eq_true (by have hc:=of_decide_eq_true hc;unfold ky at*;omega))
  rw[←hs,List.filter_filter,List.filter_filter]
  congr 1
  ·congr 1
   funext y
   grind
  ·unfold grp
   congr 1
   funext y
   grind
def many (nw:Nat) (S:List It) (ts:List Nat):List It:=ts.flatMap (grp nw S)
theorem many_eq (h:Srt S) (nw:Nat): ∀(ts:List Nat),ts.Pairwise (· < ·)→many nw S ts=S.filter (fun x=>decide (ky nw x∈ts))
 |[],_=>by
  grind[Wh.many,List.filter_eq_nil_iff]
 |t::ts,hp=>by
  obtain⟨h1,h2⟩:=List.pairwise_cons.1 hp
  have e:many nw S (t::ts)=grp nw S t++many nw S ts:=rfl
  rw[e,many_eq h nw ts h2]
  have hs:=split_down (p:=fun x=>decide (ky nw x≤t)) (h.filter (fun x=>decide (ky nw x∈t::ts))) (fun a c hac hc=>decide_eq_true (by have hc:=of_decide_eq_true hc;unfold ky at*;omega))
  rw[←hs,List.filter_filter,List.filter_filter]
  congr 1
  ·unfold grp
   congr 1
   funext y
   grind
  ·congr 1
   funext y
   grind
theorem spots_len (S:List It):(spots S).length=S.length:=by simp[spots]
theorem spots_append (S T:List It):spots (S++T)=spots S++spots T:=by simp[spots]
theorem mem_spots {q:Nat}:q∈spots S↔ ∃y∈S,y.i+1=q:=by simp[spots]
theorem spots_ne0: ∀q∈spots S,q≠0:=fun q hq=>by obtain⟨y,_,rfl⟩:=mem_spots.1 hq;omega
end
def Seg (A B:Nat→Nat):Nat→List Nat→Nat→Prop
 |_,[],_=>True
 |p,x::xs,q=>A x=p∧B x=xs.headD q∧Seg A B x xs q
structure Lst (A B:Nat→Nat) (f l:Nat) (xs:List Nat):Prop where
 f:f=xs.headD 0
 l:l=xs.getLastD 0
 s:Seg A B 0 xs 0
def updz (f:Nat→Nat) (i x:Nat):Nat→Nat:=if i=0 then f else upd f i x
section
variable {A B A' B':Nat→Nat} {xs ys:List Nat} {p q x:Nat}
theorem getLastD_append (xs ys:List Nat) (d:Nat):(xs++ys).getLastD d=ys.getLastD (xs.getLastD d):=by
 simp
theorem headD_append (xs ys:List Nat) (d:Nat):(xs++ys).headD d=xs.headD (ys.headD d):=by simp
theorem Seg.append: ∀{xs:List Nat} {p:Nat},Seg A B p (xs++ys) q↔Seg A B p xs (ys.headD q)∧Seg A B (xs.getLastD p) ys q
 |[],p=>by simp[Seg]
 |x::xs,p=>by
  show(A x=p∧B x=(xs++ys).headD q∧Seg A B x (xs++ys) q)↔(A x=p∧B x=xs.headD (ys.headD q)∧Seg A B x xs (ys.headD q))∧Seg A B ((x::xs).getLastD p) ys q
  rw[headD_append,Seg.append (xs:=xs),show(x::xs).getLastD p=xs.getLastD x by grind]
  grind
theorem Seg.congr: ∀{xs:List Nat} {p:Nat},Seg A B p xs q→(∀x∈xs,A' x=A x∧B' x=B x)→Seg A' B' p xs q
 |[],_,_,_=>trivial
 |x::xs,p,⟨a,b,c⟩,h=>by
  have hx:=h x (by simp)
  exact⟨hx.1.trans a,hx.2.trans b,c.congr (by grind)⟩
theorem Seg.toEnd: ∀{xs:List Nat} {p q q':Nat},Seg A B p xs q→xs.Nodup→(∀y∈xs,y≠0)→Seg A (updz B (xs.getLastD 0) q') p xs q'
 |[],_,_,_,_,_,_=>trivial
 |[x],p,q,q',⟨a,b,_⟩,hn,h0=>by
  refine⟨a,?_,trivial⟩
  show updz B x q' x=q'
  unfold updz
  grind[upd]
 |x::y::xs,p,q,q',⟨a,b,c⟩,hn,h0=>by
  obtain⟨h1,h2⟩:=List.nodup_cons.1 hn
  refine⟨a,?_,?_⟩
  ·show updz B ((x::y::xs).getLastD 0) q' x=y
   unfold updz
   grind[upd]
  ·have:=Seg.toEnd (q':=q') c h2 (by grind)
   rwa [show(x::y::xs).getLastD 0=(y::xs).getLastD 0 by rfl]
theorem Seg.toBegin {xs:List Nat} {p p' q:Nat} (h:Seg A B p xs q) (hn:xs.Nodup) (h0: ∀y∈xs,y≠0):Seg (updz A (xs.headD 0) p') B p' xs q:=by
 match xs,h with
 |[],_=>trivial
 |x::xs,⟨a,b,c⟩=>
  obtain⟨h1,h2⟩:=List.nodup_cons.1 hn
  have e:updz A ((x::xs).headD 0) p'=upd A x p':=by
   grind[Wh.updz]
  rw[e]
  refine⟨upd_same _ _ _,b,c.congr (fun y hy=>⟨upd_other _ _ _ _ (by grind),rfl⟩)⟩
theorem updz_other (f:Nat→Nat) (i v j:Nat) (h:j≠i):updz f i v j=f j:=by
 unfold updz
 grind[upd]
theorem last_mem {xs:List Nat} (h:xs.getLastD 0≠0):xs.getLastD 0∈xs:=by
 grind
theorem head_mem {xs:List Nat} (h:xs.headD 0≠0):xs.headD 0∈xs:=by
 cases xs with
 |nil=>grind
 |cons y ys=>simp
theorem last_zero {xs:List Nat} (h0: ∀y∈xs,y≠0) (h:xs.getLastD 0=0):xs=[]:=by
 rcases xs.eq_nil_or_concat with rfl|⟨ys,y,rfl⟩
 ·rfl
 grind
theorem head_zero {xs:List Nat} (h0: ∀y∈xs,y≠0) (h:xs.headD 0=0):xs=[]:=by
 cases xs with
 |nil=>rfl
 |cons y ys=>grind
variable {P Q:List Nat} {f l:Nat}
theorem Lst.tie (h:Lst A B f l (P++Q)) (hn:(P++Q).Nodup) (h0: ∀y∈P++Q,y≠0) (hx:x ∉ P++Q) (hx0:x≠0):
  Lst (updz (upd A x (P.getLastD 0)) (Q.headD 0) x) (updz (upd B x (Q.headD 0)) (P.getLastD 0) x) (if P.getLastD 0=0 then x else f) (if Q.headD 0=0 then x else l) (P++x::Q):=by
 obtain⟨hnP,hnQ,hd⟩:=List.nodup_append.1 hn
 have hP0: ∀y∈P,y≠0:=fun y hy=>(by grind)
 have hQ0: ∀y∈Q,y≠0:=fun y hy=>(by grind)
 have hxP:x ∉ P:=fun q=>(by grind)
 have hxQ:x ∉ Q:=fun q=>(by grind)
 have hlP:P.getLastD 0≠0→P.getLastD 0∈P:=last_mem
 have hhQ:Q.headD 0≠0→Q.headD 0∈Q:=head_mem
 obtain⟨s1,s2⟩:=Seg.append.1 h.s
 refine⟨?_,?_,Seg.append.2 ⟨?_,?_⟩⟩
 ·split
  ·grind[Wh.last_zero]
  ·rename_i e
   rw[h.f]
   cases P with
   |nil=>grind
   |cons y ys=>rfl
 ·rw[getLastD_append]
  split
  ·grind[Wh.head_zero]
  ·rename_i e
   rw[h.l,getLastD_append]
   grind
 ·refine(s1.toEnd (q':=x) hnP hP0).congr (fun y hy=>⟨?_,?_⟩)
  ·grind[Wh.updz_other,upd_other]
  ·unfold updz
   grind[upd]
 ·refine⟨?_,?_,?_⟩
  ·grind[Wh.updz_other,upd_same]
  ·grind[Wh.updz_other,upd_same]
  ·refine(s2.toBegin (p':=x) hnQ hQ0).congr (fun y hy=>⟨?_,?_⟩)
   ·unfold updz
    grind[upd]
   grind[Wh.updz_other,upd_other]
theorem Lst.mid (h:Lst A B f l (P++x::Q)):A x=P.getLastD 0∧B x=Q.headD 0:=by
 obtain⟨_,s2⟩:=Seg.append.1 h.s
 exact⟨s2.1,s2.2.1⟩
theorem Lst.congr (h:Lst A B f l xs) (hc: ∀x∈xs,A' x=A x∧B' x=B x):Lst A' B' f l xs:=⟨h.f,h.l,h.s.congr hc⟩
theorem Lst.nil:Lst A B 0 0 []:=⟨rfl,rfl,trivial⟩
end
open Go.RowKit
open Go.Maps (Keyed)
theorem keyU:Keyed Tryz.prog 25:=Go.Maps.int_keyed Tryz.underlying25
def RL:Value→Option (DataW Unit×List MemPlace)
 | .agg ⟨[.int .i64 a,.int .i64 c]⟩=>some (.agg [.lit (.int .i64 a),.lit (.int .i64 c)],[])
 |_=>none
theorem RL_mk (a c:Int):RL (.agg #[.int .i64 a,.int .i64 c])=some (.agg [.lit (.int .i64 a),.lit (.int .i64 c)],[]):=rfl
theorem RL_inv {v:Value} {z:DataW Unit×List MemPlace} (h:RL v=some z): ∃a c,v= .agg #[.int .i64 a,.int .i64 c]∧z=(.agg [.lit (.int .i64 a),.lit (.int .i64 c)],[]):=by
 unfold RL at h
 split at h
 ·rename_i a c
  exact⟨a,c,rfl,by exact mK⟩
 ·cases h
def IsM (w:World) (mb:Nat) (f:Int→Option (Nat×Nat)) (s:Nat):Prop:=
 ∃D:DataW Unit,w.ownsMap Tryz.prog 25 RL mb s D∧(∀i,Maps.has D (.int .u64 i)=(f i).isSome)∧(∀i c zd,f i=some c→D.atKey (.int .u64 i) zd= .agg [.lit (.int .i64 (c.1:Int)),.lit (.int .i64 (c.2:Int))])∧Maps.size D=s
def setF (f:Int→Option (Nat×Nat)) (i:Int) (o:Option (Nat×Nat)):Int→Option (Nat×Nat):=fun j=>if j=i then o else f j
section
variable {w w':World} {mb s:Nat} {f:Int→Option (Nat×Nat)}
theorem IsM.made (w:World):IsM (w.alloc (.map #[] 0)) w.heap.size (fun _=>none) 0:=
 ⟨.map [],World.ownsMap_made w _ _ _,fun _=>rfl,fun i c zd h=>(by cases h),rfl⟩
theorem IsM.lt (h:IsM w mb f s):mb<w.heap.size:=by obtain⟨D,h,_⟩:=h;exact h.lt
theorem IsM.block (h:IsM w mb f s) (hb:w'.heap[mb]? =w.heap[mb]?):IsM w' mb f s:=by
 obtain⟨D,⟨es,clock,h0,h1⟩,h2⟩:=h
 exact⟨D,⟨es,clock,by rw[hb];exact h0,h1⟩,h2⟩
theorem zeroList (w:World):(zeroValue 174).run Tryz.prog w= .ok (.agg #[vI6 0,vI6 0]) w:=by rfl
theorem keyI (i:Int) (hi:(Lit.int .u64 i).wf=true):keyOf Tryz.prog 25 (.int .u64 i)=some (.int .u64 i):=Go.Maps.keyOf_int_mk (by simp) hi
theorem IsM.look (h:IsM w mb f s) (i:Int) (hi:(Lit.int .u64 i).wf=true):
  (Instr.lookup 171 (.map (some mb)) (.int .u64 i) false).run Tryz.prog w= .ok (.agg #[.int .i64 (((f i).getD (0,0)).1:Int),.int .i64 (((f i).getD (0,0)).2:Int)]) w:=by
 obtain⟨D,h1,h2,h3,_⟩:=h
 obtain⟨v,ps,hr,hv⟩:=h1.lookup keyU (t:=171) (e:=174) (by simp) (zeroList w) (RL_mk 0 0) (keyI i hi)
 rw[hr]
 obtain⟨a,c,rfl,hz⟩:=RL_inv hv
 have hc':=congrArg Prod.fst hz
 simp only at hc'
 cases hf:f i with
 |none=>
  have hn:Maps.has D (.int .u64 i)=false:=by rw[h2 i,hf];rfl
  rw[Maps.atKey_of_not_has hn] at hc'
  simp at hc'
  rw[←hc'.1,←hc'.2]
  rfl
 |some c'=>
  rw[h3 i c' _ hf] at hc'
  simp at hc'
  rw[←hc'.1,←hc'.2]
  rfl
theorem lit_ne {i j:Int} (h:i≠j):(Lit.int .u64 i)≠(Lit.int .u64 j):=fun e=>h (by grind)
theorem lit_key (i:Int):WideAt.IsKeyLit (Lit.int .u64 i):=trivial
theorem wpList_delete_m {ops:Array Oper} {rest:List Oper} {o:Oper} {a:Act} {Q:Exit→Act→World→Prop} (hg:o.guard=none) (m x:Operand) (hop:o.op=Op.call {callee:=Callee.builtin Builtin.delete,args:= #[m,x],argTypes:= #[171,25]})
  (h:IsM w mb f s) (i:Int) (hi:(Lit.int .u64 i).wf=true) (hm:a.eval m= .map (some mb)) (hx:a.eval x= .int .u64 i)
  (hK: ∀w',IsM w' mb (setF f i none) (if (f i).isSome then s-1 else s)→w.grownBy w' (some mb)→wpList Tryz.prog ops Q rest (a.put o.dst (.tuple #[])) w'):
  wpList Tryz.prog ops Q (o::rest) a w:=by
 obtain⟨D,h1,h2,h3,h4⟩:=h
 refine wpList_delete_own w hg m x 171 25 hop 174 keyU (by simp) RL mb s D hm h1 (.int .u64 i) (.int .u64 i) hx (keyI i hi) ?_
 intro w' q1 q2
 have hsz:Maps.size (D.del (.int .u64 i))=if (f i).isSome then s-1 else s:=by
  grind[Maps.size_del,World.ownsMap.tidy,Wh.keyU]
 refine hK w' ⟨_,tight q1 hsz,fun j=> ?_,fun j c' zd hj=> ?_,hsz⟩ (World.mapTurned.grown q2)
 ·unfold setF
  by_cases e:j=i
  ·subst e
   rw[if_pos rfl,Maps.has_del_same]
   rfl
  ·rw[if_neg e,Maps.has_del_other (lit_ne e),h2 j]
 ·unfold setF at hj
  by_cases e:j=i
  ·subst e
   rw[if_pos rfl] at hj
   cases hj
  ·rw[if_neg e] at hj
   grind[Maps.atKey_del_other]
end
end Go.Proofs.YtnmhcgpnhlhcgaaGreatDoor.Wh
namespace Go.Proofs.YtnmhcgpnhlhcgaaGreatDoor.Wh
structure Inv (n nw ct:Nat) (F L:Nat→Nat) (fr:Int→Option (Nat×Nat)) (A B E:Nat→Nat) (T:Nat→Bool) (S:List It):Prop where
 srt:Srt S
 nd:(S.map (·.i)).Nodup
 lt: ∀x∈S,x.i<n
 tm: ∀x∈S,x.t<18446744073709551616
 hw:nw<18446744073709551616
 hc:ct=S.length
 slot: ∀s,s<64→Lst A B (F s) (L s) (spots (grp nw S (nw/64*64+s)))
 far: ∀k:Nat,nw/64<k/64→(fr (k:Int)=none∧grp nw S k=[])∨(∃f l:Nat,fr (k:Int)=some (f,l)∧grp nw S k≠[]∧Lst A B f l (spots (grp nw S k)))
 out: ∀i:Int,(fr i).isSome=true→ ∃k:Nat,i=(k:Int)∧nw/64<k/64
 ent: ∀x∈S,T (x.i+1)=true∧E (x.i+1)=x.t
 zer: ∀p,p≤n→(∀x∈S,x.i+1≠p)→T p=false∧E p=0
def lst (nw:Nat) (F L:Nat→Nat) (fr:Int→Option (Nat×Nat)) (k:Nat):Nat×Nat:=if k/64=nw/64 then(F (k%64),L (k%64)) else(fr (k:Int)).getD (0,0)
def keepN (nw:Nat) (F:Nat→Nat) (k f:Nat):Nat→Nat:=if k/64=nw/64 then upd F (k%64) f else F
def keepM (nw:Nat) (fr:Int→Option (Nat×Nat)) (k f l:Nat):Int→Option (Nat×Nat):=if k/64=nw/64 then fr else setF fr k (if f=0 then none else some (f,l))
section
variable {n nw ct:Nat} {F L:Nat→Nat} {fr:Int→Option (Nat×Nat)} {A B E A' B' E':Nat→Nat} {T T':Nat→Bool} {S S':List It}
theorem Inv.list (h:Inv n nw ct F L fr A B E T S) (k:Nat) (hk:nw≤k):Lst A B (lst nw F L fr k).1 (lst nw F L fr k).2 (spots (grp nw S k)):=by
 unfold lst
 by_cases e:k/64=nw/64
 ·rw[if_pos e]
  have:=h.slot (k%64) (by omega)
  rwa [show nw/64*64+k%64=k by omega] at this
 ·rw[if_neg e]
  rcases h.far k (by omega) with ⟨e1,e2⟩|⟨f,l,e1,_,e2⟩
  ·rw[e1,e2];exact Lst.nil
  ·rw[e1];exact e2
theorem nd_eq (h:(S.map (·.i)).Nodup) {x y:It} (hx:x∈S) (hy:y∈S) (e:x.i=y.i):x=y:=by
 induction S with
 |nil=>cases hx
 |cons a S ih=>
  grind
theorem mem_grp {k:Nat} {x:It}:x∈grp nw S k↔x∈S∧ky nw x=k:=by
 unfold grp
 simp
theorem spots_nd (h:(S.map (·.i)).Nodup):(spots S).Nodup:=by
 unfold spots
 grind
theorem nd_sub {q:It→Bool} (h:(S.map (·.i)).Nodup):((S.filter q).map (·.i)).Nodup:=(by grind)
theorem Inv.keep (h:Inv n nw ct F L fr A B E T S) (k f l:Nat) (hk:nw≤k) (hg: ∀j,j≠k→grp nw S' j=grp nw S j)
  (hAB: ∀y∈S,ky nw y≠k→A' (y.i+1)=A (y.i+1)∧B' (y.i+1)=B (y.i+1)) (hl:Lst A' B' f l (spots (grp nw S' k))):
  (∀s,s<64→Lst A' B' (keepN nw F k f s) (keepN nw L k l s) (spots (grp nw S' (nw/64*64+s))))∧
  (∀j:Nat,nw/64<j/64→(keepM nw fr k f l (j:Int)=none∧grp nw S' j=[])∨(∃f' l':Nat,keepM nw fr k f l (j:Int)=some (f',l')∧grp nw S' j≠[]∧Lst A' B' f' l' (spots (grp nw S' j))))∧
  (∀i:Int,(keepM nw fr k f l i).isSome=true→ ∃k:Nat,i=(k:Int)∧nw/64<k/64):=by
 have hoth: ∀j,j≠k→ ∀f l,Lst A B f l (spots (grp nw S j))→Lst A' B' f l (spots (grp nw S' j)):=fun j hj f l hh=>by
  rw[hg j hj]
  refine hh.congr (fun p hp=> ?_)
  obtain⟨y,hy,rfl⟩:=mem_spots.1 hp
  obtain⟨hy1,hy2⟩:=mem_grp.1 hy
  grind
 refine⟨fun s hs=> ?_,fun j hj=> ?_,fun i hi=> ?_⟩
 ·unfold keepN
  by_cases e:k/64=nw/64
  ·rw[if_pos e,if_pos e]
   grind[upd_same,upd_other,Wh.Inv.slot]
  ·rw[if_neg e,if_neg e]
   grind[Wh.Inv.slot]
 ·unfold keepM
  by_cases e:k/64=nw/64
  ·rw[if_pos e]
   grind[Wh.Inv.far]
  ·rw[if_neg e]
   by_cases e4:j=k
   ·subst e4
    unfold setF
    rw[if_pos rfl]
    by_cases e5:f=0
    ·rw[if_pos e5]
     have e6:=head_zero (xs:=spots (grp nw S' j)) spots_ne0 (hl.f.symm.trans e5)
     exact .inl ⟨rfl,by simpa [spots] using e6⟩
    ·rw[if_neg e5]
     refine .inr ⟨f,l,rfl,fun e6=>e5 ?_,hl⟩
     rw[hl.f,e6];rfl
   ·unfold setF
    rw[if_neg (by omega)]
    grind[Wh.Inv.far]
 ·unfold keepM at hi
  by_cases e:k/64=nw/64
  ·rw[if_pos e] at hi;exact h.out i hi
  ·rw[if_neg e] at hi
   unfold setF at hi
   by_cases e4:i=k
   ·grind
   ·rw[if_neg e4] at hi;exact h.out i hi
def pre (nw:Nat) (S:List It) (t:Nat):List Nat:=spots ((grp nw S (max t nw)).filter (fun y=>decide (y.t≤t)))
def suf (nw:Nat) (S:List It) (t:Nat):List Nat:=spots ((grp nw S (max t nw)).filter (fun y=> !decide (y.t≤t)))
theorem Inv.halves (h:Inv n nw ct F L fr A B E T S) (t:Nat):spots (grp nw S (max t nw))=pre nw S t++suf nw S t:=by
 unfold pre suf
 rw[←spots_append,split_at (S:=grp nw S (max t nw)) (h.srt.filter _)]
theorem Inv.set (h:Inv n nw ct F L fr A B E T S) (id t:Nat) (hid:id<n) (hT:T (id+1)=false) (ht:t<18446744073709551616):
  Inv n nw (ct+1) (keepN nw F (max t nw) (if (pre nw S t).getLastD 0=0 then id+1 else(lst nw F L fr (max t nw)).1)) (keepN nw L (max t nw) (if (suf nw S t).headD 0=0 then id+1 else(lst nw F L fr (max t nw)).2))
   (keepM nw fr (max t nw) (if (pre nw S t).getLastD 0=0 then id+1 else(lst nw F L fr (max t nw)).1) (if (suf nw S t).headD 0=0 then id+1 else(lst nw F L fr (max t nw)).2))
   (updz (upd A (id+1) ((pre nw S t).getLastD 0)) ((suf nw S t).headD 0) (id+1)) (updz (upd B (id+1) ((suf nw S t).headD 0)) ((pre nw S t).getLastD 0) (id+1)) (upd E (id+1) t) (upd T (id+1) true) (ins ⟨id,t⟩ S):=by
 have hno: ∀y∈S,y.i≠id:=fun y hy e=>by
  have:=(h.ent y hy).1
  grind
 have hspl:=h.halves t
 have hlst:=h.list (max t nw) (by omega)
 rw[hspl] at hlst
 have hsub: ∀p∈pre nw S t++suf nw S t,∃y∈S,ky nw y=max t nw∧y.i+1=p:=fun p hp=>by
  rw[←hspl] at hp
  obtain⟨y,hy,rfl⟩:=mem_spots.1 hp
  exact⟨y,(mem_grp.1 hy).1,(mem_grp.1 hy).2,rfl⟩
 have hnew:id+1 ∉ pre nw S t++suf nw S t:=fun q=>by
  grind
 have hnd:(pre nw S t++suf nw S t).Nodup:=by rw[←hspl];exact spots_nd (nd_sub h.nd)
 have h0: ∀y∈pre nw S t++suf nw S t,y≠0:=fun y hy=>by grind
 have hL:=hlst.tie (x:=id+1) hnd h0 hnew (by omega)
 have hg:grp nw (ins ⟨id,t⟩ S) (max t nw)=ins ⟨id,t⟩ (grp nw S (max t nw)):=by
  rw[grp_ins h.srt]
  exact if_pos rfl
 have hgl:spots (grp nw (ins ⟨id,t⟩ S) (max t nw))=pre nw S t++(id+1)::suf nw S t:=by
  rw[hg]
  unfold ins pre suf
  rw[spots_append]
  rfl
 rw[←hgl] at hL
 have hout: ∀y∈S,ky nw y≠max t nw→y.i+1 ∉ pre nw S t++suf nw S t:=fun y hy hk q=>by
  obtain⟨z,hz,hzk,e⟩:=hsub _ q
  have:z=y:=nd_eq h.nd hz hy (by omega)
  grind
 have K:=h.keep (S':=ins ⟨id,t⟩ S) (max t nw) _ _ (by omega) (fun j hj=>by
  rw[grp_ins h.srt]
  exact if_neg (fun e=>hj e.symm)) (fun y hy hk=>by
   have h1:=hout y hy hk
   have h2:=hno y hy
   have h3:y.i+1≠(suf nw S t).headD 0:=fun e=>by
    grind[Wh.head_mem]
   have h4:y.i+1≠(pre nw S t).getLastD 0:=fun e=>by
    grind
   grind[Wh.updz_other,upd_other]) hL
 refine⟨h.srt.ins _,?_,?_,?_,h.hw,?_,K.1,K.2.1,K.2.2,?_,?_⟩
 ·refine((ins_perm (x:=⟨id,t⟩) h.srt).map (·.i)).nodup_iff.2 ?_
  rw[List.map_cons,List.nodup_cons]
  refine⟨fun q=> ?_,h.nd⟩
  grind
 ·intro x hx
  rcases mem_ins.1 hx with rfl|hx
  ·exact hid
  ·exact h.lt x hx
 ·intro x hx
  rcases mem_ins.1 hx with rfl|hx
  ·exact ht
  ·exact h.tm x hx
 ·rw[ins_length h.srt,h.hc]
 ·intro x hx
  rcases mem_ins.1 hx with rfl|hx
  ·grind[upd]
  grind[upd_other,Wh.Inv.ent]
 ·intro p hp hq
  have h1:=hq ⟨id,t⟩ (mem_ins.2 (.inl rfl))
  have h2:p≠id+1:=fun e=>h1 e.symm
  rw[upd_other _ _ _ _ h2,upd_other _ _ _ _ h2]
  exact h.zer p hp (fun x hx=>hq x (mem_ins.2 (.inr hx)))
theorem mem_late {to:Nat} {x:It}:x∈late to S↔x∈S∧to<x.t:=by
 unfold late
 simp
theorem mem_due {to:Nat} {x:It}:x∈due to S↔x∈S∧x.t≤to:=by
 unfold due
 simp
theorem grp_late {to:Nat} (h:nw≤to) (j:Nat):grp to (late to S) j=if j≤to then [] else grp nw S j:=by
 unfold grp late
 rw[List.filter_filter]
 by_cases hj:j≤to
 ·rw[if_pos hj,List.filter_eq_nil_iff]
  grind[Wh.ky]
 ·rw[if_neg hj]
  congr 1
  funext y
  rw[Bool.eq_iff_iff]
  simp[ky]
  omega
theorem Inv.adv (h:Inv n nw ct F L fr A B E T S) {F' L':Nat→Nat} {fr':Int→Option (Nat×Nat)} (to:Nat) (hto:nw≤to) (ht:to<18446744073709551616)
  (hs: ∀s,s<64→if to/64*64+s≤to then F' s=0∧L' s=0 else F' s=(lst nw F L fr (to/64*64+s)).1∧L' s=(lst nw F L fr (to/64*64+s)).2)
  (hf: ∀k:Nat,to/64<k/64→fr' (k:Int)=fr (k:Int)) (ho: ∀i:Int,(fr' i).isSome=true→ ∃k:Nat,i=(k:Int)∧to/64<k/64)
  (hAB: ∀y∈S,to<y.t→A' (y.i+1)=A (y.i+1)∧B' (y.i+1)=B (y.i+1)∧E' (y.i+1)=E (y.i+1)∧T' (y.i+1)=T (y.i+1))
  (hz: ∀p,p≤n→(∀y∈S,to<y.t→y.i+1≠p)→T' p=false∧E' p=0):
  Inv n to (late to S).length F' L' fr' A' B' E' T' (late to S):=by
 have hc: ∀j f l,to<j→Lst A B f l (spots (grp nw S j))→Lst A' B' f l (spots (grp to (late to S) j)):=fun j f l hj hl=>by
  rw[grp_late hto,if_neg (by omega)]
  refine hl.congr (fun p hp=> ?_)
  obtain⟨y,hy,rfl⟩:=mem_spots.1 hp
  obtain⟨h1,h2⟩:=mem_grp.1 hy
  have:=hAB y h1 (by unfold ky at h2;omega)
  omega
 refine⟨h.srt.filter _,nd_sub h.nd,fun x hx=>h.lt x (mem_late.1 hx).1,fun x hx=>h.tm x (mem_late.1 hx).1,ht,rfl,fun s hs'=> ?_,fun k hk=> ?_,ho,fun x hx=> ?_,fun p hp hq=> ?_⟩
 ·have:=hs s hs'
  by_cases e:to/64*64+s≤to
  ·rw[if_pos e] at this
   rw[this.1,this.2,grp_late hto,if_pos e]
   exact Lst.nil
  ·rw[if_neg e] at this
   rw[this.1,this.2]
   grind[Wh.Inv.list]
 ·rw[hf k hk,grp_late hto,if_neg (by omega)]
  rcases h.far k (by omega) with ⟨e1,e2⟩|⟨f,l,e1,e2,e3⟩
  ·grind
  ·refine .inr ⟨f,l,e1,e2,?_⟩
   have:=hc k f l (by omega) e3
   rwa [grp_late hto,if_neg (by omega)] at this
 ·obtain⟨h1,h2⟩:=mem_late.1 hx
  exact mK
 ·exact hz p hp (fun y hy hy2=>hq y (mem_late.2 ⟨hy,hy2⟩))
end
open Go.RowKit
attribute [local go_sem ↓] Go.wp_at_zero Go.wp_at_succ
def entryZero:Value:= .agg #[vI6 0,vI6 0,vU6 0,.bool false]
def entryCells (n:Nat):Array Value:=madeCells entryZero.cells ((n+1)*4)
theorem infoEntry:(Tryz.prog.info? 196).map (fun i=>(i.zero,i.size,i.bytes))=some (some entryZero,4,32):=by rfl
def zeroCells:Array Value:= #[vU6 0]++(Array.replicate 128 (vI6 0)++ #[.map none,.slice none 0 0,vI6 0])
theorem zero_size:zeroCells.size=132:=by unfold zeroCells;simp
theorem zeroWh (w:World):(zeroValue 177).run Tryz.prog w= .ok (.agg zeroCells) w:=by kernel_rfl
theorem entry_at (n k:Nat) (h:k<(n+1)*4):(entryCells n)[k]? =some ((#[Value.int .i64 0,vI6 0,vU6 0,.bool false]:Array Value)[k%4]!):=by
 unfold entryCells madeCells entryZero
 simp[Value.cells,h]
def wheelCells (r g n:Nat):Array Value:=(zeroCells.setIfInBounds 129 (.map (some r))).setIfInBounds 130 (.slice (some (vA0 g)) (n+1) (n+1))
theorem wheel_lo (r g n i:Nat) (h1:1≤i) (h2:i≤128):(wheelCells r g n)[i]? =some (vI6 0):=by
 unfold wheelCells
 rw[Array.getElem?_setIfInBounds_ne (by omega),Array.getElem?_setIfInBounds_ne (by omega)]
 unfold zeroCells
 rw[Array.getElem?_append_right (by omega),Array.getElem?_append_left (by grind)]
 grind
theorem wheel_0 (r g n:Nat):(wheelCells r g n)[0]? =some (vU6 0):=by
 unfold wheelCells
 rw[Array.getElem?_setIfInBounds_ne (by omega),Array.getElem?_setIfInBounds_ne (by omega)]
 unfold zeroCells
 simp
theorem wheel_129 (r g n:Nat):(wheelCells r g n)[129]? =some (.map (some r)):=by
 grind[Wh.wheelCells,Wh.zero_size]
theorem wheel_130 (r g n:Nat):(wheelCells r g n)[130]? =some (.slice (some (vA0 g)) (n+1) (n+1)):=by
 grind[Wh.wheelCells,Wh.zero_size]
theorem wheel_131 (r g n:Nat):(wheelCells r g n)[131]? =some (vI6 0):=by
 unfold wheelCells
 rw[Array.getElem?_setIfInBounds_ne (by omega),Array.getElem?_setIfInBounds_ne (by omega)]
 unfold zeroCells
 simp
theorem new_rep (w:World) (n:Nat):
  Rep (((w.alloc (.map #[] 0)).alloc (.cells (entryCells n) 196)).alloc (.cells (wheelCells w.heap.size (w.heap.size+1) n) 177)) (w.heap.size+1+1) (w.heap.size+1) n 0 0 (.map (some w.heap.size)) (fun _=>0) (fun _=>0) (fun _=>0) (fun _=>0) (fun _=>0) (fun _=>false):=by
 have e1:w.heap.size+1=(w.alloc (.map #[] 0)).heap.size:=by simp
 have e2:w.heap.size+1+1=((w.alloc (.map #[] 0)).alloc (.cells (entryCells n) 196)).heap.size:=by simp
 have hb: ∀i,(((w.alloc (.map #[] 0)).alloc (.cells (entryCells n) 196)).alloc (.cells (wheelCells w.heap.size (w.heap.size+1) n) 177)).cell? (vAt (w.heap.size+1+1) i)=(wheelCells w.heap.size (w.heap.size+1) n)[i]? :=by
  grind[cell_new]
 have hg: ∀i,(((w.alloc (.map #[] 0)).alloc (.cells (entryCells n) 196)).alloc (.cells (wheelCells w.heap.size (w.heap.size+1) n) 177)).cell? (vAt (w.heap.size+1) i)=(entryCells n)[i]? :=by
  intro i
  rw[World.cell?_alloc_lt _ _ _ (by simp)]
  simp
 have fb: ∀i,(((w.alloc (.map #[] 0)).alloc (.cells (entryCells n) 196)).alloc (.cells (wheelCells w.heap.size (w.heap.size+1) n) 177)).frozen? (vAt (w.heap.size+1+1) i)=false:=by
  grind[frozen_new]
 have fg: ∀i,(((w.alloc (.map #[] 0)).alloc (.cells (entryCells n) 196)).alloc (.cells (wheelCells w.heap.size (w.heap.size+1) n) 177)).frozen? (vAt (w.heap.size+1) i)=false:=by
  intro i
  rw[World.frozen?_alloc_past _ _ _ (by simp)]
  simp
 refine⟨by omega,⟨n+1,by rw[hb];exact wheel_130 _ _ _⟩,by rw[hb];exact wheel_0 _ _ _,by rw[hb];exact wheel_129 _ _ _,by rw[hb];exact wheel_131 _ _ _,fun x hx=> ?_,fun x hx=> ?_,fun x hx=> ?_,fun x hx=> ?_,fun x hx=> ?_,fun x hx=> ?_,fb,fg⟩
 ·grind[Wh.wheel_lo]
 ·grind[Wh.wheel_lo]
 ·grind[Wh.entry_at]
 ·grind[Wh.entry_at]
 ·grind[Wh.entry_at]
 grind[Wh.entry_at]
theorem turn_ok (t:Nat) (ht:t<18446744073709551616) (w:World):
  vS 86 #[vU6 (t:Int)] w (vU6 ((t/64:Nat):Int)):=by
 have hw:IntKind.u64.wrap ((t:Int)/64)=((t/64:Nat):Int):=by rw[IntKind.wrap_u64];omega
 refine ge ?_
 go_wp2
 go_ret
 simp
section
variable {w:World} {b g n nw ct:Nat} {fm:Value} {F L A B E:Nat→Nat} {T:Nat→Bool}
theorem now_walk (h:Rep w b g n nw ct fm F L A B E T):
  vS 88 #[vPt b] w (vU6 (nw:Int)):=by
 have e2:=h.tn
 clear h
 refine ge ?_
 go_wp2
 go_ret
 simp
end
section
variable {w:World} {b g n nw ct:Nat} {fm:Value} {F L A B E:Nat→Nat} {T:Nat→Bool}
theorem list_same (h:Rep w b g n nw ct fm F L A B E T) (t:Nat) (ht:t<18446744073709551616) (hle:nw≤t) (htn:t/64=nw/64):
  vQ 197 #[vPt b,vU6 (t:Int)] w (.agg #[vI6 (F (t%64):Int),vI6 (L (t%64):Int)]):=by
 have e0:=h.tn
 have e1:=h.sf (t%64) (by omega)
 have e2:=h.sl (t%64) (by omega)
 have hbb:=h.lt_b
 have y1: ¬b=w.heap.size:=by omega
 have hm:(nw:Int)≤(t:Int):=by omega
 have HT1:=veil (turn_ok t ht)
 have hT2:=turn_ok nw (by omega)
 rw[←htn] at hT2
 have HT2:=veil hT2
 have r1:(0:Int)≤((t%64:Nat):Int):=by omega
 have r2:((t%64:Nat):Int)<64:=by omega
 clear h hT2 htn
 refine ge ?_
 go_wp2
 go_region_held3 (fun w'=>w'.cell? (vA0 b)=some (vU6 (nw:Int))) (go_keep)
  (first
   |(go_at_call 86;first
     |(refine(HT1.out _).mono ?_;rintro e w1 ⟨rfl,hw⟩;subst hw)
     |(refine cS (HT2.out _) ?_)))
 go_wp2
 simp[bodyPost,results,Tryz.results197,go_sem]
 exact bzA.drew
theorem keep_same (h:Rep w b g n nw ct fm F L A B E T) (t f l:Nat) (ht:t<18446744073709551616) (hle:nw≤t) (htn:t/64=nw/64):
  vCa 195 #[vPt b,vU6 (t:Int),.agg #[vI6 (f:Int),vI6 (l:Int)]] w fun e w'=>e=vRt #[]∧Rep w' b g n nw ct fm (upd F (t%64) f) (upd L (t%64) l) A B E T∧Only b g w w':=by
 have hlt:t%64<64:=(by omega)
 have e0:=h.tn
 have e1:=h.sf (t%64) hlt
 have e2:=h.sl (t%64) hlt
 have fb:=h.fb
 have hbb:=h.lt_b
 have y1: ¬b=w.heap.size:=by omega
 have hm:(nw:Int)≤(t:Int):=by omega
 have HT1:=veil (turn_ok t ht)
 have hT2:=turn_ok nw (by omega)
 rw[←htn] at hT2
 have HT2:=veil hT2
 have r1:(0:Int)≤((t%64:Nat):Int):=by omega
 have r2:((t%64:Nat):Int)<64:=by omega
 have HR:=veil h
 clear h hT2 htn
 refine ge ?_
 go_wp2
 go_region_held3 (fun w'=>w'.cell? (vA0 b)=some (vU6 (nw:Int))) (go_keep)
  (first
   |(go_at_call 86;first
     |(refine(HT1.out _).mono ?_;rintro e w1 ⟨rfl,hw⟩;subst hw)
     |(refine cS (HT2.out _) ?_)))
 go_wp2
 go_region
 go_wp2
 go_end0
 exact⟨rfl,((((HR.out.setF (t%64) hlt f).setL (t%64) hlt l).alloc _).drew).drew,(((((Only.refl b g w).set _ _ (Or.inl rfl)).set _ _ (Or.inl rfl)).alloc _).drew).drew⟩
end
theorem u64wf (k:Nat) (h:k<18446744073709551616):(Lit.int .u64 (k:Int)).wf=true:=by
 simp[Lit.wf,IntKind.min,IntKind.max,IntKind.bits,IntKind.signed]
 omega
section
variable {w:World} {b g mb n nw ct s:Nat} {F L A B E:Nat→Nat} {T:Nat→Bool} {fr:Int→Option (Nat×Nat)}
theorem list_ok (h:Rep w b g n nw ct (.map (some mb)) F L A B E T) (hm:IsM w mb fr s) (t:Nat) (ht:t<18446744073709551616) (hn:nw<18446744073709551616):
  vQ 197 #[vPt b,vU6 (t:Int)] w (.agg #[vI6 ((lst nw F L fr (max t nw)).1:Int),vI6 ((lst nw F L fr (max t nw)).2:Int)]):=by
 by_cases hle:nw≤t
 ·rw[Nat.max_eq_left hle]
  by_cases htn:t/64=nw/64
  ·unfold lst
   rw[if_pos htn]
   exact list_same h t ht hle htn
  ·unfold lst
   rw[if_neg htn]
   have e0:=h.tn
   have e1:=h.tm
   have hbb:=h.lt_b
   have y1: ¬b=w.heap.size:=by omega
   have hm':(nw:Int)≤(t:Int):=by omega
   have HT1:=veil (turn_ok t ht)
   have HT2:=veil (turn_ok nw hn)
   have hne: ¬((t/64:Nat):Int)=((nw/64:Nat):Int):=by omega
   have hlk:=hm.look (t:Int) (u64wf t ht)
   have hlk2:=(hm.block (w':=(w.alloc (.cells #[vI6 0,vI6 0] 174)).drew) (Below.heap_alloc _ _ _ hm.lt)).look (t:Int) (u64wf t ht)
   generalize (fr (t:Int)).getD (0,0)=z at*
   generalize ((t/64:Nat):Int)=q1 at*
   generalize ((nw/64:Nat):Int)=q2 at*
   clear h htn
   refine ge ?_
   go_wp2
   go_region_held3 (fun w'=>w'.cell? (vA0 b)=some (vU6 (nw:Int))) (go_keep)
    (first
     |(go_at_call 86;first
       |(refine(HT1.out _).mono ?_;rintro e w1 ⟨rfl,hw⟩;subst hw)
       |(refine(HT2.out _).mono ?_;rintro e w1 ⟨rfl,hw⟩;subst hw)))
   go_wp2
   simp[bodyPost,results,Tryz.results197,go_sem]
   exact bzA.drew
 ·rw[Nat.max_eq_right (by omega)]
  unfold lst
  rw[if_pos rfl]
  have e0:=h.tn
  have e1:=h.sf (nw%64) (Nat.mod_lt _ (by decide))
  have e2:=h.sl (nw%64) (Nat.mod_lt _ (by decide))
  have hbb:=h.lt_b
  have y1: ¬b=w.heap.size:=by omega
  have hm':(t:Int)≤(nw:Int):=by omega
  have HT2:=veil (turn_ok nw hn)
  have r1:(0:Int)≤((nw%64:Nat):Int):=by omega
  have r2:((nw%64:Nat):Int)<64:=by omega
  clear h hm
  refine ge ?_
  go_wp2
  go_region_held3 (fun w'=>w'.cell? (vA0 b)=some (vU6 (nw:Int))) (go_keep)
   (first
    |(go_at_call 86;refine cS (HT2.out _) ?_))
  go_wp2
  simp[bodyPost,results,Tryz.results197,go_sem]
  exact bzA.drew
end
section
variable {S S':Nat→Prop} {w w' w'':World}
theorem _root_.Go.Proofs.YtnmhcgpnhlhcgaaGreatDoor.Fr.of_onlyW {b g:Nat} (h:Only b g w w') (h1:S b) (h2:S g):Fr S w w':=⟨h.os,h.tape,h.output,h.size,fun k hk hn=>h.block k hk (fun e=>hn (by rw[e];exact h1)) (fun e=>hn (by rw[e];exact h2))⟩
theorem _root_.Go.Proofs.YtnmhcgpnhlhcgaaGreatDoor.Fr.of_grown' {k:Nat} (h:w.grownBy w' (some k)) (hk:S k):Fr S w w':=⟨h.os,h.tape,h.output,h.size,fun j hj hn=>h.block j hj (fun e=>hn (by injection e with e;rw[e];exact hk))⟩
end
theorem len_le_of_sub: ∀{l m:List Int},l.Nodup→(∀x∈l,x∈m)→l.length≤m.length
 |[],_,_,_=>by simp
 |a::l,m,hn,hs=>by
  obtain⟨h1,h2⟩:=List.nodup_cons.1 hn
  have ha:a∈m:=hs a (by simp)
  have:=len_le_of_sub (l:=l) (m:=m.erase a) h2 (fun x hx=>(List.mem_erase_of_ne (fun e=>h1 (by grind))).2 (hs x (by simp[hx])))
  grind
def litI:Lit→Int
 | .int _ i=>i
 |_=>0
theorem IsM.size_le {w:World} {mb s:Nat} {f:Int→Option (Nat×Nat)} (h:IsM w mb f s) (ks:List Int) (hk: ∀i,(f i).isSome=true→i∈ks):s≤ks.length:=by
 obtain⟨D,h1,h2,h3,h4⟩:=h
 have hform: ∀es,D= .map es→ ∀p∈es,∃i,p.1=Lit.int .u64 i:=by
  obtain⟨mes,clock,hb,Ft,hs,hD⟩:=h1
  intro es e p hp
  rw[hD] at e
  injection e with e
  rw[←e] at hp
  obtain⟨x,hx,rfl⟩:=List.mem_map.1 (mem_sorted.1 hp)
  obtain⟨y,hy⟩:=Ft.reads x hx
  rw[WideElems.rg_of hy]
  obtain⟨i,_,e2,_⟩:=Maps.keyOf_int_inv Tryz.underlying25 (WideElems.rd_key hy)
  grind
 obtain⟨es,rfl,hp,hkey⟩:=h1.entries keyU
 have hf:=hform es rfl
 rw[←h4]
 show es.length≤_
 rw[←List.length_map (f:=fun p:Lit×DataW Unit=>litI p.1)]
 refine len_le_of_sub ?_ ?_
 ·rw[List.Nodup,List.pairwise_map]
  refine List.Pairwise.imp_of_mem ?_ hp
  intro p q hpm hqm hne e
  obtain⟨i,e1⟩:=hf p hpm
  obtain⟨j,e2⟩:=hf q hqm
  rw[e1,e2] at e
  exact hne (by rw[e1,e2,show i=j from e])
 ·intro i hi
  obtain⟨p,hpm,rfl⟩:=List.mem_map.1 hi
  obtain⟨j,e1⟩:=hf p hpm
  refine hk _ ?_
  rw[e1]
  show(f j).isSome=true
  rw[←h2 j]
  exact List.any_eq_true.2 ⟨p,hpm,by rw[e1];exact WideAt.sameKey_self trivial⟩
theorem IsM.store {w:World} {mb s:Nat} {f:Int→Option (Nat×Nat)} (h:IsM w mb f s) (hn:s<maxLen) (i:Int) (c:Nat×Nat) (hi:(Lit.int .u64 i).wf=true):
  ∃w',(Instr.mapUpdate 171 (.map (some mb)) (.int .u64 i) (.agg #[.int .i64 (c.1:Int),.int .i64 (c.2:Int)])).run Tryz.prog w= .ok () w'∧(∃s',IsM w' mb (setF f i (some c)) s')∧w.grownBy w' (some mb):=by
 obtain⟨D,h1,h2,h3,h4⟩:=h
 obtain⟨w',hr,q1,q2⟩:=h1.store keyU (t:=171) (e:=174) Tryz.underlying171 hn (keyI i hi) (RL_mk (c.1:Int) (c.2:Int))
 refine⟨w',hr,⟨Maps.size (D.put (.int .u64 i) (.agg [.lit (.int .i64 (c.1:Int)),.lit (.int .i64 (c.2:Int))])),D.put (.int .u64 i) (.agg [.lit (.int .i64 (c.1:Int)),.lit (.int .i64 (c.2:Int))]),tight q1 rfl,fun j=> ?_,fun j c' zd hj=> ?_,rfl⟩,World.mapTurned.grown q2⟩
 ·unfold setF
  by_cases e:j=i
  ·subst e
   rw[if_pos rfl,Maps.has_put_same h1.isMap (lit_key _)]
   rfl
  ·rw[if_neg e,Maps.has_put_other (lit_ne e),h2 j]
 ·unfold setF at hj
  by_cases e:j=i
  ·subst e
   rw[if_pos rfl] at hj
   injection hj with hj
   rw[Maps.atKey_put_same h1.isMap (lit_key _),hj]
  ·rw[if_neg e] at hj
   rw[Maps.atKey_put_other (lit_ne e)]
   exact h3 j c' zd hj
section
variable {w:World} {b g mb n nw ct s:Nat} {F L A B E:Nat→Nat} {T:Nat→Bool} {fr:Int→Option (Nat×Nat)}
def O3 (b g mb:Nat):Nat→Prop:=fun k=>k=b∨k=g∨k=mb
theorem keep_ok (h:Rep w b g n nw ct (.map (some mb)) F L A B E T) (hm:IsM w mb fr s) (hbm:b≠mb) (hgm:g≠mb) (hs:s<maxLen) (t f l:Nat) (ht:t<18446744073709551616) (hn:nw<18446744073709551616):
  vCa 195 #[vPt b,vU6 (t:Int),.agg #[vI6 (f:Int),vI6 (l:Int)]] w fun e w'=>e=vRt #[]∧Rep w' b g n nw ct (.map (some mb)) (keepN nw F (max t nw) f) (keepN nw L (max t nw) l) A B E T∧(∃s',IsM w' mb (keepM nw fr (max t nw) f l) s')∧Fr (O3 b g mb) w w':=by
 by_cases hle:nw≤t
 ·rw[Nat.max_eq_left hle]
  unfold keepN keepM
  by_cases htn:t/64=nw/64
  ·rw[if_pos htn,if_pos htn,if_pos htn]
   refine(keep_same h t f l ht hle htn).mono ?_
   rintro e w' ⟨rfl,hr,ho⟩
   exact⟨rfl,hr,⟨s,hm.block (ho.block mb hm.lt (fun e=>hbm e.symm) (fun e=>hgm e.symm))⟩,Fr.of_onlyW ho (.inl rfl) (.inr (.inl rfl))⟩
  ·rw[if_neg htn,if_neg htn,if_neg htn]
   have e0:=h.tn
   have e1:=h.tm
   have hbb:=h.lt_b
   have y1: ¬b=w.heap.size:=by omega
   have hm':(nw:Int)≤(t:Int):=by omega
   have HT1:=veil (turn_ok t ht)
   have HT2:=veil (turn_ok nw hn)
   have hne: ¬((t/64:Nat):Int)=((nw/64:Nat):Int):=by omega
   have HM:=veil (fun o=>hm.block (w':=(w.alloc o).drew) (Below.heap_alloc _ _ _ hm.lt))
   have HR:=veil h
   have hmlt:=hm.lt
   have HEnd:Hid (∀o w1,(w.alloc o).drew.grownBy w1 (some mb)→Rep w1 b g n nw ct (.map (some mb)) F L A B E T∧Fr (O3 b g mb) w w1):=fun o w1 hg=>by
    have hf:Fr (O3 b g mb) (w.alloc o).drew w1:=Fr.of_grown' hg (.inr (.inr rfl))
    have hr:=(h.alloc o).drew
    refine⟨hr.kept (hg.block b hr.lt_b (fun e=>hbm (by grind))) (hg.block g hr.lt_g (fun e=>hgm (by grind))),(((Fr.refl _ w).alloc o).drew).trans hf⟩
   have hwf:=u64wf t ht
   generalize ((t/64:Nat):Int)=q1 at*
   generalize ((nw/64:Nat):Int)=q2 at*
   clear h htn hm
   by_cases hf0:f=0
   ·rw[if_pos hf0]
    have hf1:(f:Int)=0:=by omega
    clear hf0
    refine ge ?_
    go_wp2
    go_region_held3 (fun w'=>w'.cell? (vA0 b)=some (vU6 (nw:Int))) (go_keep)
     (first
      |(go_at_call 86;first
        |(refine(HT1.out _).mono ?_;rintro e w1 ⟨rfl,hw⟩;subst hw)
        |(refine(HT2.out _).mono ?_;rintro e w1 ⟨rfl,hw⟩;subst hw)))
    go_wp2_with (at_delete;refine wpList_delete_m rfl _ _ rfl (by exact HM.out _) (t:Int) hwf rfl rfl ?_;intro w1 hm1 hg1;have HM1:=veil hm1;have HE:=veil (HEnd.out _ _ hg1);clear hm1 hg1)
    go_end0
    exact⟨rfl,HE.out.1,⟨_,HM1.out⟩,HE.out.2⟩
   ·rw[if_neg hf0]
    have hf1: ¬(f:Int)=0:=by omega
    clear hf0
    refine ge ?_
    go_wp2
    go_region_held3 (fun w'=>w'.cell? (vA0 b)=some (vU6 (nw:Int))) (go_keep)
     (first
      |(go_at_call 86;first
        |(refine(HT1.out _).mono ?_;rintro e w1 ⟨rfl,hw⟩;subst hw)
        |(refine(HT2.out _).mono ?_;rintro e w1 ⟨rfl,hw⟩;subst hw)))
    obtain⟨w1,hst,hm1,hg1⟩:=(HM.out (.cells #[vI6 (f:Int),vI6 (l:Int)] 174)).block (w':=((w.alloc (.cells #[vI6 (f:Int),vI6 (l:Int)] 174)).drew).drew) rfl|>.store hs (t:Int) (f,l) hwf
    have HM1:=veil hm1
    have HE:=veil (HEnd.out _ _ (show(w.alloc (.cells #[vI6 (f:Int),vI6 (l:Int)] 174)).drew.grownBy w1 (some mb) from⟨hg1.os,hg1.tape,hg1.output,hg1.size,hg1.block⟩))
    clear hm1 hg1
    go_wp2
    go_region
    go_wp2
    go_end0
    exact⟨rfl,HE.out.1,HM1.out,HE.out.2⟩
 ·rw[Nat.max_eq_right (by omega)]
  unfold keepN keepM
  rw[if_pos rfl,if_pos rfl,if_pos rfl]
  have hlt:nw%64<64:=Nat.mod_lt _ (by decide)
  have e0:=h.tn
  have e1:=h.sf (nw%64) hlt
  have e2:=h.sl (nw%64) hlt
  have fb:=h.fb
  have hbb:=h.lt_b
  have y1: ¬b=w.heap.size:=by omega
  have hm':(t:Int)≤(nw:Int):=by omega
  have HT2:=veil (turn_ok nw hn)
  have r1:(0:Int)≤((nw%64:Nat):Int):=by omega
  have r2:((nw%64:Nat):Int)<64:=by omega
  have HR:=veil h
  have HM:=veil hm
  clear h hm
  refine ge ?_
  go_wp2
  go_region_held3 (fun w'=>w'.cell? (vA0 b)=some (vU6 (nw:Int))) (go_keep)
   (first
    |(go_at_call 86;refine cS (HT2.out _) ?_))
  go_wp2
  go_region
  go_wp2
  go_end0
  have hO:Only b g w _:=(((((Only.refl b g w).set (vAt b (1+nw%64*2)) (vI6 (f:Int)) (Or.inl rfl)).set (vAt b (1+nw%64*2+1)) (vI6 (l:Int)) (Or.inl rfl)).alloc (.cells #[vI6 (f:Int),vI6 (l:Int)] 174)).drew).drew
  exact⟨rfl,((((HR.out.setF (nw%64) hlt f).setL (nw%64) hlt l).alloc _).drew).drew,⟨s,HM.out.block (hO.block mb HM.out.lt (fun e=>hbm e.symm) (fun e=>hgm e.symm))⟩,Fr.of_onlyW hO (.inl rfl) (.inr (.inl rfl))⟩
end
def pos:List Nat→Nat→Nat
 |[],_=>0
 |y::ys,v=>if y=v then 1 else if pos ys v=0 then 0 else pos ys v+1
theorem pos_mid: ∀(R S:List Nat) (y:Nat),(R++y::S).Nodup→pos (R++y::S) y=R.length+1
 |[],S,y,_=>by simp[pos]
 |z::R,S,y,h=>by
  obtain⟨h1,h2⟩:=List.nodup_cons.1 h
  have hz:z≠y:=fun e=>h1 (by grind)
  show(if z=y then 1 else if pos (R++y::S) y=0 then 0 else pos (R++y::S) y+1)=_
  rw[if_neg hz,pos_mid R S y h2,if_neg (by omega)]
  simp
theorem pos_not: ∀(R:List Nat) (y:Nat),y ∉ R→pos R y=0
 |[],_,_=>rfl
 |z::R,y,h=>by
  have h1:z≠y:=fun e=>h (by simp[e])
  show(if z=y then 1 else if pos R y=0 then 0 else pos R y+1)=0
  rw[if_neg h1,pos_not R y (by grind),if_pos rfl]
def lz (l:List Nat):Nat:=l.getLastD 0
def hz (l:List Nat):Nat:=l.headD 0
theorem last_snoc (R:List Nat) (y d:Nat):(R++[y]).getLastD d=y:=by simp
section
variable {w:World} {b g n nw ct f l x t:Nat} {fm:Value} {F L A B E:Nat→Nat} {T:Nat→Bool} {P Q:List Nat}
theorem tie_core (h:Rep w b g n nw ct fm F L A B E T) (hL:Lst A B f l (P++Q)) (hP: ∀p∈P,E p≤t) (hQ: ∀q∈Q,t<E q) (h0: ∀p∈P++Q,p≠0∧p≤n) (hnd:(P++Q).Nodup) (hx:x≤n) (hxm:x ∉ P++Q)
  {f' l':Nat} {A' B':Nat→Nat} (hf':f'=if lz P=0 then x else f) (hl':l'=if hz Q=0 then x else l) (hA':A'=updz (upd A x (lz P)) (hz Q) x) (hB':B'=updz (upd B x (hz Q)) (lz P) x):
  vCa 196 #[vPt b,.agg #[vI6 (f:Int),vI6 (l:Int)],vI6 (x:Int),vU6 (t:Int)] w fun e w'=>
   e= .returned (.agg #[vI6 (f':Int),vI6 (l':Int)])∧Rep w' b g n nw ct fm F L A' B' (upd E x t) (upd T x true)∧Only b g w w':=by
 have HF':=veil hf'
 have HL':=veil hl'
 have HA':=veil hA'
 have HB':=veil hB'
 clear hf' hl' hA' hB'
 obtain⟨cp,e0⟩:=h.en
 have n0:=h.ea x hx;have n1:=h.eb x hx;have n2:=h.ee x hx;have n3:=h.et x hx
 have fg:=h.fg
 have hbb:=h.lt_b
 have hgg:=h.lt_g
 have y1: ¬b=w.heap.size:=by omega
 have y2: ¬g=w.heap.size:=by omega
 have y3: ¬b=w.heap.size+1:=by omega
 have y4: ¬g=w.heap.size+1:=by omega
 have xl:x<n+1:=by omega
 have HR:=veil h
 have HL:=veil hL
 have HP:=veil hP
 have HQ:=veil hQ
 have H0:=veil h0
 have HN:=veil hnd
 have HX:=veil hxm
 have hl0:l=lz (P++Q):=hL.l
 have Hl0:=veil hl0
 clear h hL hP hQ h0 hnd hxm hl0
 refine ge ?_
 go_wp2
 go_loopw [9,10] (fun a c wr=> ∃Q1 Q2,Q=Q1++Q2∧a=vI6 ((lz (P++Q1):Nat):Int)∧c=vI6 ((hz Q2:Nat):Int)∧wr=(w.alloc (.cells #[vI6 (f:Int),vI6 (l:Int)] 174)).alloc (.cells #[vI6 0,vI6 0] 174)) (fun a _ _=>pos (P++Q) (intOf a).toNat)
 case atStart=>exact⟨Q,[],by simp,by rw[←Hl0.out],rfl,rfl⟩
 case round=>
  obtain⟨Q1,Q2,hq,rfl,rfl,rfl⟩:=hrel
  rcases Q1.eq_nil_or_concat with rfl|⟨R,y,rfl⟩
  ·obtain rfl:Q=Q2:=by grind
   clear hq
   rw[List.append_nil]
   have hlm:lz P≠0→lz P∈P:=last_mem
   have hhm:hz Q≠0→hz Q∈Q:=head_mem
   have HE:Hid (lz P≠0→lz P≤n∧E (lz P)≤t∧lz P≠x):=fun q=>⟨(H0.out _ (List.mem_append_left _ (hlm q))).2,HP.out _ (hlm q),fun e=>HX.out (by grind)⟩
   have HF:Hid (hz Q≠0→hz Q≤n∧hz Q≠x):=fun q=>⟨(H0.out _ (List.mem_append_right _ (hhm q))).2,fun e=>HX.out (by grind)⟩
   clear HL HP HQ H0 HN HX Hl0 hlm hhm
   obtain⟨ah,hah⟩: ∃ah,lz P=ah:=⟨_,rfl⟩
   obtain⟨be,hbe⟩: ∃be,hz Q=be:=⟨_,rfl⟩
   rw[hah] at HE HF' HA' HB'⊢
   rw[hbe] at HF HL' HA' HB'⊢
   clear hah hbe
   obtain⟨W4,hW4⟩: ∃W4,W4=(((w.setCell (vAt g (x*4)) (vI6 (ah:Int))).setCell (vAt g (x*4+1)) (vI6 (be:Int))).setCell (vAt g (x*4+2)) (vU6 (t:Int))).setCell (vAt g (x*4+3)) (.bool true):=⟨_,rfl⟩
   have HEND:Hid (Rep W4 b g n nw ct fm F L (upd A x ah) (upd B x be) (upd E x t) (upd T x true)):=by rw[hW4];exact(((HR.out.setA x hx ah).setB x hx be).setE x hx t).setT x hx true
   have HO:Hid (Only b g w W4):=by rw[hW4];exact((((Only.refl b g w).set _ _ (Or.inr rfl)).set _ _ (Or.inr rfl)).set _ _ (Or.inr rfl)).set _ _ (Or.inr rfl)
   have HS:Hid (W4.heap.size=w.heap.size):=by rw[hW4];show _=_;simp
   have HW4:=veil hW4
   clear hW4
   have ht:ah≠0→ ¬(t:Int)<(E ah:Int):=fun q=>by have:=(HE.out q).2.1;omega
   have HT:=veil ht
   clear ht
   by_cases ha:ah=0
   ·subst ha
    go_upto_region 5 with fail
    have hW4':W4=(((w.setCell (vAt g (x*4)) (vI6 0)).setCell (vAt g (x*4+1)) (vI6 (be:Int))).setCell (vAt g (x*4+2)) (vU6 (t:Int))).setCell (vAt g (x*4+3)) (.bool true):=HW4.out
    rw[←hW4']
    clear hW4'
    have hs4:=HS.out
    have fg4:=HEND.out.fg
    obtain⟨cp4,e04⟩:=HEND.out.en
    clear HE HW4 n0 n1 n2 n3 e0 fg
    by_cases hb:be=0
    ·subst hb
     clear HF
     go_wp2
     have eF:=HF'.out
     have eL:=HL'.out
     have eA:=HA'.out
     have eB:=HB'.out
     simp only[updz,if_true,if_pos rfl,reduceIte] at eF eL eA eB
     rw[eF,eL,eA,eB]
     clear eF eL eA eB
     simp[bodyPost,results,Tryz.results196,go_sem,updz,hs4]
     exact⟨(HEND.out.alloc _).alloc _,(HO.out.alloc _).alloc _⟩
    ·obtain⟨b1,b2⟩:=HF.out hb
     have c0:=HEND.out.ea be b1
     have hb': ¬(be:Int)=0:=by omega
     have bl:be<n+1:=by omega
     clear HF
     go_wp2
     have eF:=HF'.out
     have eL:=HL'.out
     have eA:=HA'.out
     have eB:=HB'.out
     simp only[updz,if_neg hb,reduceIte] at eF eL eA eB
     rw[eF,eL,eA,eB]
     clear eF eL eA eB
     simp[bodyPost,results,Tryz.results196,go_sem,updz,hb,hs4]
     exact⟨((HEND.out.setA be b1 x).alloc _).alloc _,((HO.out.set _ _ (Or.inr rfl)).alloc _).alloc _⟩
   ·obtain⟨a1,a2,a3⟩:=HE.out ha
    have c2:=HR.out.ee ah a1
    have ha': ¬(ah:Int)=0:=by omega
    have al:ah<n+1:=by omega
    have ht:=HT.out ha
    clear HE HT
    go_upto_region 5 with fail
    rw[←HW4.out]
    have hs4:=HS.out
    have fg4:=HEND.out.fg
    have c1:=HEND.out.eb ah a1
    obtain⟨cp4,e04⟩:=HEND.out.en
    clear HW4 n0 n1 n2 n3 e0 fg c2
    by_cases hb:be=0
    ·subst hb
     clear HF
     go_wp2
     have eF:=HF'.out
     have eL:=HL'.out
     have eA:=HA'.out
     have eB:=HB'.out
     simp only[updz,if_neg ha,reduceIte] at eF eL eA eB
     rw[eF,eL,eA,eB]
     clear eF eL eA eB
     simp[bodyPost,results,Tryz.results196,go_sem,updz,ha,hs4]
     exact⟨((HEND.out.setB ah a1 x).alloc _).alloc _,((HO.out.set _ _ (Or.inr rfl)).alloc _).alloc _⟩
    ·obtain⟨b1,b2⟩:=HF.out hb
     obtain⟨W5,hW5⟩: ∃W5,W5=W4.setCell (vAt g (ah*4+1)) (vI6 (x:Int)):=⟨_,rfl⟩
     have HR5:Hid (Rep W5 b g n nw ct fm F L (upd A x ah) (upd (upd B x be) ah x) (upd E x t) (upd T x true)):=by rw[hW5];exact HEND.out.setB ah a1 x
     have HO5:Hid (Only b g w W5):=by rw[hW5];exact HO.out.set _ _ (Or.inr rfl)
     have HS5:Hid (W5.heap.size=w.heap.size):=by rw[hW5];show _=_;simp_all
     have hb': ¬(be:Int)=0:=by omega
     have bl:be<n+1:=by omega
     have HW5:=veil hW5
     clear HF hW5
     go_upto_region 8 with fail
     rw[←HW5.out]
     have hs5:=HS5.out
     have fg5:=HR5.out.fg
     have c0:=HR5.out.ea be b1
     obtain⟨cp5,e05⟩:=HR5.out.en
     clear HW5 fg4 c1 e04 hs4
     go_wp2
     have eF:=HF'.out
     have eL:=HL'.out
     have eA:=HA'.out
     have eB:=HB'.out
     simp only[updz,if_neg ha,if_neg hb,reduceIte] at eF eL eA eB
     rw[eF,eL,eA,eB]
     clear eF eL eA eB
     simp[bodyPost,results,Tryz.results196,go_sem,updz,ha,hb,hs5]
     exact⟨((HR5.out.setA be b1 x).alloc _).alloc _,((HO5.out.set _ _ (Or.inr rfl)).alloc _).alloc _⟩
  ·rw[List.concat_eq_append] at hq⊢
   have e1:lz (P++(R++[y]))=y:=by unfold lz;simp
   have hQe:P++Q=(P++R)++y::Q2:=by grind
   have hyQ:y∈Q:=by grind
   have hy:=H0.out y (List.mem_append_right _ hyQ)
   have ht:=HQ.out y hyQ
   have hl:=HL.out
   have hnd:=HN.out
   rw[hQe] at hl hnd
   have hA:A y=lz (P++R):=hl.mid.1
   have HM:Hid (pos (P++Q) (lz (P++R))<pos (P++Q) y):=by
    show _<_
    unfold lz
    rw[hQe,pos_mid _ _ _ hnd]
    rcases(P++R).eq_nil_or_concat with e|⟨R',z,e⟩<;>(try rw[List.concat_eq_append] at e)
    ·rw[e,pos_not _ _ (fun q=>(H0.out 0 (by grind)).1 rfl)]
     simp
    ·rw[e,last_snoc]
     have e2:(R'++[z])++y::Q2=R'++z::(y::Q2):=by simp
     rw[e] at hnd
     rw[e2] at hnd⊢
     rw[pos_mid _ _ _ hnd]
     simp
   have HREL:Hid (Q=R++(y::Q2)):=by show _=_;grind
   have n0y:=HR.out.ea y hy.2
   have n2y:=HR.out.ee y hy.2
   rw[hA] at n0y
   have hy': ¬(y:Int)=0:=by omega
   have yl:y<n+1:=by omega
   have ht':(t:Int)<(E y:Int):=by omega
   rw[e1]
   clear e1 hQe hyQ hy ht hl hnd hA hq
   obtain⟨z,hz⟩: ∃z,lz (P++R)=z:=⟨_,rfl⟩
   rw[hz] at n0y HM
   have HZ:=veil hz
   clear hz
   go_wp2
   go_roundw
   case rel=>exact⟨R,y::Q2,HREL.out,by rw[HZ.out],rfl,trivial⟩
   assumption
end
def IsW (w:World) (b g mb n nw:Nat) (S:List It):Prop:=
 ∃(ct:Nat) (F L:Nat→Nat) (fr:Int→Option (Nat×Nat)) (A B E:Nat→Nat) (T:Nat→Bool) (s:Nat),Rep w b g n nw ct (.map (some mb)) F L A B E T∧IsM w mb fr s∧Inv n nw ct F L fr A B E T S∧b≠mb∧g≠mb∧n≤1024
section
variable {w w':World} {b g mb n nw ct s:Nat} {F L A B E:Nat→Nat} {T:Nat→Bool} {fr:Int→Option (Nat×Nat)} {S:List It}
theorem Inv.len_le (h:Inv n nw ct F L fr A B E T S):S.length≤n:=by
 have:=len_le_of_sub (l:=S.map (fun x=>(x.i:Int))) (m:=(List.range n).map (fun (k:Nat)=>(k:Int))) (by
  have hn:=h.nd
  grind) (fun x hx=>by
   obtain⟨y,hy,rfl⟩:=List.mem_map.1 hx
   exact List.mem_map.2 ⟨y.i,List.mem_range.2 (h.lt y hy),rfl⟩)
 grind
theorem Inv.map_le (h:Inv n nw ct F L fr A B E T S) (hm:IsM w mb fr s):s≤S.length:=by
 have:=hm.size_le (S.map (fun x=>(ky nw x:Int))) (fun i hi=>by
  obtain⟨k,rfl,hk⟩:=h.out i hi
  rcases h.far k hk with ⟨e,_⟩|⟨f,l,_,e,_⟩
  ·grind
  ·obtain⟨x,hx⟩:=List.exists_mem_of_ne_nil _ e
   obtain⟨h1,h2⟩:=mem_grp.1 hx
   grind)
 grind
theorem IsW.frame {Z:Nat→Prop} (h:IsW w b g mb n nw S) (hf:Fr Z w w') (h1: ∀k,O3 b g mb k→ ¬Z k):IsW w' b g mb n nw S:=by
 obtain⟨ct,F,L,fr,A,B,E,T,s,hr,hm,hi,r⟩:=h
 exact⟨ct,F,L,fr,A,B,E,T,s,hr.kept (hf.block b hr.lt_b (h1 b (.inl rfl))) (hf.block g hr.lt_g (h1 g (.inr (.inl rfl)))),hm.block (hf.block mb hm.lt (h1 mb (.inr (.inr rfl)))),hi,r⟩
theorem IsW.facts (h:IsW w b g mb n nw S):Srt S∧(S.map (·.i)).Nodup∧(∀x∈S,x.i<n)∧(∀x∈S,x.t<18446744073709551616)∧nw<18446744073709551616∧S.length≤n∧n≤1024:=by
 obtain⟨ct,F,L,fr,A,B,E,T,s,hr,hm,hi,_,_,hn⟩:=h
 exact⟨hi.srt,hi.nd,hi.lt,hi.tm,hi.hw,hi.len_le,hn⟩
def tmOf (S:List It) (id:Int):Option Nat:=(S.find? (fun x=>(x.i:Int)==id)).map (·.t)
def setC (n:Nat) (S:List It) (id:Int):Int:=if id<0∨(n:Int)≤id then 2 else if (tmOf S id).isSome then 5 else 0
def setS (n:Nat) (S:List It) (id:Int) (t:Nat):List It:=if setC n S id=0 then ins ⟨id.toNat,t⟩ S else S
theorem tmOf_some {id t:Nat} (hn:(S.map (·.i)).Nodup):tmOf S (id:Int)=some t↔(⟨id,t⟩:It)∈S:=by
 unfold tmOf
 rw[Option.map_eq_some_iff]
 constructor
 ·rintro⟨x,hx,rfl⟩
  have h1:=List.mem_of_find?_eq_some hx
  have h2:=List.find?_some hx
  simp at h2
  have h3:x.i=id:=by omega
  rw[←h3]
  exact h1
 ·intro h
  cases hf:S.find? (fun x=>(x.i:Int)==(id:Int)) with
  |none=>
   grind
  |some y=>
   have h1:=List.mem_of_find?_eq_some hf
   have h2:=List.find?_some hf
   simp at h2
   have:=nd_eq hn h1 h (show y.i=id by omega)
   grind
theorem tmOf_none {id:Nat}:tmOf S (id:Int)=none↔ ∀x∈S,x.i≠id:=by
 grind[Wh.tmOf,Option.map_eq_none_iff]
theorem Inv.there (h:Inv n nw ct F L fr A B E T S) (id:Nat) (hid:id<n):T (id+1)=(tmOf S (id:Int)).isSome∧E (id+1)=(tmOf S (id:Int)).getD 0:=by
 cases hx:tmOf S (id:Int) with
 |none=>
  have:=h.zer (id+1) (by omega) (fun x hx' e=>tmOf_none.1 hx x hx' (by omega))
  grind
 |some t=>
  have:=h.ent _ ((tmOf_some h.nd).1 hx)
  grind
theorem may_ok (h:Rep w b g n nw ct (.map (some mb)) F L A B E T) (id:Int) (hn:n≤1024):
  vS 194 #[vPt b,vI6 id] w (.bool (decide (0≤id)&&decide (id<(n:Int)))):=by
 obtain⟨cp,e0⟩:=h.en
 clear h
 by_cases h1:0≤id
 ·by_cases h2:id<(n:Int)
  ·refine ge ?_
   go_wp2
   go_ret
   simp_all
  ·refine ge ?_
   go_wp2
   go_ret
   simp_all
 ·have h3:id<0:=by omega
  refine ge ?_
  go_wp2
  go_ret
  exact⟨by simp;omega,rfl⟩
theorem set_ok (h:IsW w b g mb n nw S) (id:Int) (t:Nat) (ht:t<18446744073709551616):
  vCa 169 #[vPt b,vI6 id,vU6 (t:Int)] w fun e w'=>e= .returned (vI6 (setC n S id))∧IsW w' b g mb n nw (setS n S id t)∧Fr (O3 b g mb) w w':=by
 have hW:=h
 obtain⟨ct,F,L,fr,A,B,E,T,s,hr,hm,hi,hbm,hgm,hn⟩:=h
 have hmay:=may_ok hr id hn
 by_cases hb:id<0∨(n:Int)≤id
 ·have hc:setC n S id=2:=if_pos hb
  have hs:setS n S id t=S:=if_neg (by omega)
  rw[hc,hs]
  rw[show(decide (0≤id)&&decide (id<(n:Int)))=false by grind] at hmay
  have HM:=veil hmay
  have HW:=veil hW
  clear hmay hW hr hm hi hc hs hb
  refine ge ?_
  go_wp2_with (first
   |(go_at_call 194;refine cS HM.out ?_))
  go_ret
  exact⟨rfl,HW.out,Fr.refl _ _⟩
 ·obtain⟨i,rfl⟩:=Int.eq_ofNat_of_zero_le (show 0≤id by omega)
  have hin:i<n:=by omega
  rw[show(decide (0≤(i:Int))&&decide ((i:Int)<(n:Int)))=true by grind] at hmay
  obtain⟨hth,_⟩:=hi.there i hin
  have e1:=hr.et (i+1) (by omega)
  rw[hth] at e1
  obtain⟨cp,e0⟩:=hr.en
  cases hx:tmOf S (i:Int) with
  |some t0=>
   have hc:setC n S (i:Int)=5:=by unfold setC;grind
   have hs:setS n S (i:Int) t=S:=if_neg (by omega)
   rw[hc,hs]
   rw[hx] at e1
   have e1':w.cell? (vAt g ((i+1)*4+3))=some (.bool true):=e1
   have HM:=veil hmay
   have HW:=veil hW
   clear hmay hW hr hm hi hc hs hb hth e1 hx
   refine ge ?_
   go_wp2_with (first
    |(go_at_call 194;refine cS HM.out ?_))
   go_ret
   exact⟨rfl,HW.out,Fr.refl _ _⟩
  |none=>
   have hc:setC n S (i:Int)=0:=by unfold setC;grind
   have hs:setS n S (i:Int) t=ins ⟨i,t⟩ S:=by unfold setS;grind
   rw[hc,hs]
   rw[hx] at e1 hth
   have e1':w.cell? (vAt g ((i+1)*4+3))=some (.bool false):=e1
   have hI:=hi.set i t hin hth ht
   have hspl:=hi.halves t
   have hlst:=hi.list (max t nw) (by omega)
   have hlen:=hi.len_le
   have hsz:=hi.map_le hm
   have hct:=hi.hc
   rw[hspl] at hlst
   have hmem: ∀p∈pre nw S t++suf nw S t,∃y∈S,y.i+1=p:=fun p hp=>by
    rw[←hspl] at hp
    obtain⟨y,hy,rfl⟩:=mem_spots.1 hp
    exact⟨y,(mem_grp.1 hy).1,rfl⟩
   have hP: ∀p∈pre nw S t,E p≤t:=fun p hp=>by
    unfold pre at hp
    obtain⟨y,hy,rfl⟩:=mem_spots.1 hp
    obtain⟨h1,h2⟩:=List.mem_filter.1 hy
    rw[(hi.ent y (mem_grp.1 h1).1).2]
    grind
   have hQ: ∀p∈suf nw S t,t<E p:=fun p hp=>by
    unfold suf at hp
    obtain⟨y,hy,rfl⟩:=mem_spots.1 hp
    obtain⟨h1,h2⟩:=List.mem_filter.1 hy
    rw[(hi.ent y (mem_grp.1 h1).1).2]
    grind
   have h0: ∀p∈pre nw S t++suf nw S t,p≠0∧p≤n:=fun p hp=>by
    obtain⟨y,hy,rfl⟩:=hmem p hp
    have:=hi.lt y hy
    omega
   have hnd:(pre nw S t++suf nw S t).Nodup:=by rw[←hspl];exact spots_nd (nd_sub hi.nd)
   have hxm:i+1 ∉ pre nw S t++suf nw S t:=fun q=>by
    obtain⟨y,hy,e⟩:=hmem _ q
    exact tmOf_none.1 hx y hy (by omega)
   obtain⟨f',hf'⟩: ∃f',f'=if (pre nw S t).getLastD 0=0 then i+1 else(lst nw F L fr (max t nw)).1:=⟨_,rfl⟩
   obtain⟨l',hl'⟩: ∃l',l'=if (suf nw S t).headD 0=0 then i+1 else(lst nw F L fr (max t nw)).2:=⟨_,rfl⟩
   obtain⟨A',hA'⟩: ∃A',A'=updz (upd A (i+1) ((pre nw S t).getLastD 0)) ((suf nw S t).headD 0) (i+1):=⟨_,rfl⟩
   obtain⟨B',hB'⟩: ∃B',B'=updz (upd B (i+1) ((suf nw S t).headD 0)) ((pre nw S t).getLastD 0) (i+1):=⟨_,rfl⟩
   have hTie:=fun W (hb:vBw w W)=>tie_core (x:=i+1) (t:=t) (hr.below hb) hlst hP hQ h0 hnd (by omega) hxm (f':=f') (l':=l') (A':=A') (B':=B') hf' hl' hA' hB'
   rw[←hf',←hl',←hA',←hB'] at hI
   have hLi:=list_ok hr hm t ht hi.hw
   obtain⟨f0,hf0⟩: ∃f0,(lst nw F L fr (max t nw)).1=f0:=⟨_,rfl⟩
   obtain⟨l0,hl0⟩: ∃l0,(lst nw F L fr (max t nw)).2=l0:=⟨_,rfl⟩
   rw[hf0,hl0] at hLi hTie
   have hcast:((i+1:Nat):Int)=(i:Int)+1:=by omega
   rw[hcast] at hTie
   have HTie:=veil hTie
   have HLi:=veil hLi
   have HKe:=veil fun W (h1:Rep W b g n nw ct (.map (some mb)) F L A' B' (upd E (i+1) t) (upd T (i+1) true)) (h2:IsM W mb fr s)=>keep_ok h1 h2 hbm hgm (by unfold maxLen;omega) t f' l' ht hi.hw
   have HM:=veil hmay
   have HI:=veil hI
   have HIM:=veil hm
   have hcb:ct≤1024:=by omega
   have hwc:IntKind.i64.wrap ((ct:Int)+1)=(ct:Int)+1:=by simp[IntKind.wrap,IntKind.bits,IntKind.signed];omega
   clear hmay hW hr hm hi hc hs hb hth e1 hx hI hspl hlst hlen hsz hct hmem hP hQ h0 hnd hxm hf' hl' hA' hB' hTie hLi hf0 hl0 hcast
   refine ge ?_
   go_wp2_with (first
    |(go_at_call 194;refine cS HM.out ?_)
    |(go_at_call 197;refine cH HLi.out fun w1 HB=> ?_)
    |(go_at_call 196;refine(HTie.out _ HB.out).mono ?_;rintro e w2 ⟨rfl,hr,ho⟩;have HR2:=veil hr;have HM2:=veil ((HIM.out.block (HB.out.block mb HIM.out.lt)).block (ho.block mb (Nat.lt_of_lt_of_le HIM.out.lt HB.out.size) (by omega) (by omega)));have HO2:=veil ((Fr.of_below' HB.out).trans (Fr.of_onlyW (S:=O3 b g mb) ho (.inl rfl) (.inr (.inl rfl))));clear hr ho)
    |(go_at_call 195;refine(HKe.out _ HR2.out HM2.out).mono ?_;rintro e w3 ⟨rfl,hr,hm3,ho⟩;have r2:=hr.tc;have r3:=hr.fb;have HR3:=veil hr;have HM3:=veil hm3;have HO3:=veil (HO2.out.trans ho);clear hr ho hm3))
   go_ret
   obtain⟨s3,hm3⟩:=HM3.out
   refine⟨rfl,⟨ct+1,_,_,_,_,_,_,_,s3,HR3.out.setN (ct+1),hm3.block ?_,HI.out,hbm,hgm,hn⟩,HO3.out.setCell (.inl rfl) _⟩
   exact Below.heap_setCell _ _ _ _ hbm.symm
theorem now_ok (h:IsW w b g mb n nw S):
  vS 88 #[vPt b] w (vU6 (nw:Int)):=by
 obtain⟨ct,F,L,fr,A,B,E,T,s,hr,hm,hi,hbm,hgm,hn⟩:=h
 exact now_walk hr
end
theorem wpList_append_nil {P:Program} (w:World) {ops:Array Oper} {rest:List Oper} {o:Oper} {a:Act} {Q:Exit→Act→World→Prop} (hgd:o.guard=none) (s x:Operand) (t:TypeId)
  (ho:o.op= .call {callee:= .builtin .append,args:= #[s,x],argTypes:= #[t,t]})
  (base:Nat) (e:TypeId) (i:TypeInfo) (size:Nat) (ht:P.underlying t=some (.slice e)) (hi:P.info? e=some i)
  (v:Value) (n:Nat) (xs:List Value) (hs:a.eval s=v) (hown:w.ownsRow base e size v n xs) (hx:a.eval x= .slice none 0 0)
  (h:wpList P ops Q rest (a.put o.dst v) w):wpList P ops Q (o::rest) a w:=by
 refine wpList_plain hgd fun K hK=> ?_
 have hr:=run_append_owned_none (P:=P) w base t o.type e i size ht hi v n xs hown
 unfold Oper.wp execOp
 simp only[ho,resolve,invoke,builtin,Sem.run_bind,Sem.run_pure,Result.andThen_ok,List.map_toArray,List.map_cons,List.map_nil,hs,hx,hr]
 exact hK _ _ h
theorem own_ge {w:World} {base:Nat} {e:TypeId} {size:Nat} {v:Value} {n:Nat} {xs:List Value} (h:w.ownsRow base e size v n xs) {k:Nat} (hk:v.ownBlock=some k):base≤k∧k<w.heap.size:=by
 rcases h.2 with ⟨rfl,_⟩|⟨g',cap,cur,rfl,hb,hg,_⟩
 ·cases hk
 ·simp[Value.ownBlock] at hk
  grind
theorem own_slice {w:World} {base:Nat} {e:TypeId} {size:Nat} {v:Value} {n:Nat} {xs:List Value} (h:w.ownsRow base e size v n xs): ∃a c,v= .slice a n c:=by
 rcases h.2 with ⟨rfl,rfl⟩|⟨g',cap,cur,rfl,_⟩
 ·simp
 simp
theorem own_base {w:World} {base base':Nat} {e:TypeId} {size:Nat} {v:Value} {n:Nat} {xs:List Value} (h:w.ownsRow base e size v n xs) (hb:base'≤base):w.ownsRow base' e size v n xs:=by
 refine⟨h.1,?_⟩
 rcases h.2 with hn|⟨g,cap,cur,e,h0,rest⟩
 ·grind
 ·exact .inr ⟨g,cap,cur,e,(by omega),rest⟩
theorem own_kept {w w':World} {base:Nat} {e:TypeId} {size:Nat} {v:Value} {n:Nat} {xs:List Value} (h:w.ownsRow base e size v n xs) (hk: ∀k,v.ownBlock=some k→w'.heap[k]? =w.heap[k]?):w'.ownsRow base e size v n xs:=by
 refine⟨h.1,?_⟩
 rcases h.2 with hn|⟨g,cap,cur,rfl,h0,hg,rest⟩
 ·grind
 ·exact .inr ⟨g,cap,cur,rfl,h0,by rw[hk g rfl];exact hg,rest⟩
theorem own_below {w w':World} {base:Nat} {e:TypeId} {size:Nat} {v:Value} {n:Nat} {xs:List Value} (h:w.ownsRow base e size v n xs) (hb:vBw w w'):w'.ownsRow base e size v n xs:=
 own_kept h (fun k hk=>hb.block k (own_ge h hk).2)
theorem wpList_append_rows (w:World) {ops:Array Oper} {rest:List Oper} {o:Oper} {a:Act} {Q:Exit→Act→World→Prop} (hgd:o.guard=none) (s x:Operand)
  (ho:o.op= .call {callee:= .builtin .append,args:= #[s,x],argTypes:= #[123,123]})
  (base base2:Nat) (v u:Value) (n m:Nat) (xs ys:List Value) (hs:a.eval s=v) (hown:w.ownsRow base 3 1 v n xs) (hx:a.eval x=u) (hu:w.ownsRow base2 3 1 u m ys) (h1: ∀u∈ys,u.oneCell'=true)
  (hnm:n+m≤100000) (hbase:base≤w.heap.size)
  (h: ∀v' w',w'.ownsRow base 3 1 v' (n+m) (xs++ys)→w.grownBy w' v.ownBlock→wpList Tryz.prog ops Q rest (a.put o.dst v') w'):wpList Tryz.prog ops Q (o::rest) a w:=by
 obtain⟨i0,hi,hz0,hz1,hz2⟩:=info_parts infoInt
 rcases hu.2 with ⟨rfl,rfl⟩|⟨g,cap,cur,rfl,_⟩
 ·have hys:=List.length_eq_zero_iff.1 (by have:=hu.1;omega)
  subst hys
  refine wpList_append_nil w hgd s x 123 ho base 3 i0 1 (by simp) hi v n xs hs hown hx ?_
  have:=h v w (by simpa using hown) ⟨rfl,rfl,rfl,lzr,fun _ _ _=>rfl⟩
  exact this
 ·refine wpList_append_own w hgd s x 123 ho base 3 i0 (vI6 0) 1 8 (by simp) hi hz0 hz1 hz2 rfl (by decide) v n xs hs hown (vA0 g) m cap ys hx (by grind) (hu.cells rfl) h1 (by unfold maxLen;omega) (by omega) hbase ?_
  intro v' w' q1 q2 _
  exact h v' w' q1 q2
def iv (xs:List Nat):List Value:=xs.map (fun (x:Nat)=>Value.int .i64 ((x:Int)-1))
theorem iv_one (xs:List Nat): ∀u∈iv xs,u.oneCell'=true:=fun u hu=>by
 obtain⟨x,_,rfl⟩:=List.mem_map.1 hu
 rfl
theorem iv_append (xs ys:List Nat):iv (xs++ys)=iv xs++iv ys:=by simp[iv]
theorem cell_one (w:World) (x:Value) (t:TypeId): ∀j u,[x][j]? =some u→(w.alloc (.cells #[x] t)).cell? (((vA0 w.heap.size):Addr).add j)=some u:=by
 intro j u h
 have hj:j<1:=by
  grind
 obtain rfl:j=0:=by omega
 simp at h
 subst h
 simp[Addr.add]
def far (xs:List Nat) (v:Nat):Nat:=if v=0 then 0 else xs.length+1-pos xs v
section
variable {w:World} {b g n nw ct f l:Nat} {fm:Value} {F L A B E:Nat→Nat} {T:Nat→Bool} {xs:List Nat}
theorem ids_ok (h:Rep w b g n nw ct fm F L A B E T) (hL:Lst A B f l xs) (h0: ∀p∈xs,p≠0∧p≤n) (hnd:xs.Nodup) (hn:n≤1024) (hlen:xs.length≤1024):
  vCa 140 #[vPt b,.agg #[vI6 (f:Int),vI6 (l:Int)]] w fun e w'=>(∃v,e= .returned v∧w'.ownsRow w.heap.size 3 1 v xs.length (iv xs))∧vBw w w':=by
 obtain⟨i0,hi,hz0,hz1,hz2⟩:=info_parts infoInt
 have hbb:=h.lt_b
 have hgg:=h.lt_g
 have HR:=veil h
 have HL:=veil hL
 have H0:=veil h0
 have HN:=veil hnd
 have HF:Hid (f=hz xs):=hL.f
 clear h hL h0 hnd
 refine ge ?_
 go_wp2
 go_loopw [5,6] (fun v s wr=> ∃P Q,xs=P++Q∧s=vI6 ((hz Q:Nat):Int)∧vBw w wr∧wr.ownsRow w.heap.size 3 1 v P.length (iv P)) (fun _ s _=>far xs (intOf s).toNat)
 case atStart=>exact⟨[],xs,rfl,by rw[←HF.out],bzA,World.ownsRow_nil _ _ _ _⟩
 case round=>
  obtain⟨P,Q,hq,rfl,hbel,hown⟩:=hrel
  obtain⟨av,cv,rfl⟩:=own_slice hown
  have HB:=veil hbel
  have HO:=veil hown
  have hsz:=hbel.size
  have HQ:=veil hq
  clear hbel hown hq
  match Q,HQ with
  |[],HQ=>
   have hx:xs=P:=by rw[HQ.out];simp
   have HE:Hid (wr.ownsRow w.heap.size 3 1 (.slice av P.length cv) xs.length (iv xs)):=by rw[hx];exact HO.out
   clear hx
   go_wp2
   go_ret
   exact⟨⟨_,rfl,HE.out⟩,HB.out⟩
  |y::Q,HQ=>
   have hxe:=HQ.out
   have hy:=H0.out y (by grind)
   have hnd:=HN.out
   have hl:=HL.out
   rw[hxe] at hnd hl
   have hB:B y=hz Q:=hl.mid.2
   have HM:Hid (far xs (hz Q)<far xs y):=by
    show _<_
    rw[hxe]
    unfold far
    rw[if_neg hy.1,pos_mid _ _ _ hnd]
    split
    ·simp
    ·rename_i e
     match Q,e,hnd with
     |[],e,_=>exact absurd rfl e
     |z::Q,e,hnd=>
      have e2:P++y::z::Q=(P++[y])++z::Q:=by simp
      rw[e2] at hnd⊢
      show _-pos _ z<_
      rw[pos_mid _ _ _ hnd]
      grind
   have HX:Hid (xs=(P++[y])++Q):=by show _=_;grind
   have e1:=HR.out.eb y hy.2
   rw[hB] at e1
   obtain⟨cp,e0⟩:=HR.out.en
   have E0:=veil e0
   have E1:=veil e1
   have x0: ¬(y:Int)=0:=by omega
   have xl:y<n+1:=by omega
   have xb:y≤1024:=by omega
   have hp:P.length≤1024:=by grind
   have hy1:IntKind.i64.wrap ((y:Int)-1)=(y:Int)-1:=by simp[IntKind.wrap,IntKind.bits,IntKind.signed];omega
   obtain⟨z,hz'⟩: ∃z,hz Q=z:=⟨_,rfl⟩
   rw[hz'] at E1 HM
   have HZ:=veil hz'
   have hhd:hz (y::Q)=y:=rfl
   rw[hhd]
   clear hxe hy hnd hl hB e1 e0 hz' hhd
   go_wp2_with (at_builtin;refine wpList_append_own _ rfl _ _ 123 rfl w.heap.size 3 i0 (vI6 0) 1 8 (by simp) hi hz0 hz1 hz2 rfl (by decide) (.slice av P.length cv) P.length (iv P) rfl (by exact HO.out.alloc _) (vA0 wr.heap.size) 1 1 [vI6 ((y:Int)-1)] rfl rfl (cell_one _ _ _) (by simp[Value.oneCell']) (by unfold maxLen;omega) (by omega) (by simp;omega) ?_;intro v' w1 hown' hgrow _;have hb1:=(HB.out.alloc HB.out.size _).grown hgrow (by simp;omega) (fun k hk=>(own_ge HO.out hk).1);have y0:=(hb1.cell (p:=(vAt b 130)) hbb).trans E0.out;have y1:=(hb1.cell (p:=(vAt g (y*4+1))) hgg).trans E1.out;obtain⟨av',cv',rfl⟩:=own_slice hown';have HO':=veil hown';have HB1:=veil hb1;clear hown' hgrow hb1)
   go_roundw
   case rel=>exact⟨P++[y],Q,HX.out,by rw[HZ.out],HB1.out,by rw[iv_append,List.length_append];exact HO'.out⟩
   assumption
end
theorem zero_row (m:Nat):(Builtin.zeroCells (Value.agg #[vI6 0,vI6 0]).cells m).toList=List.replicate (m*2) (Value.int .i64 0):=by
 unfold Builtin.zeroCells
 apply List.ext_getElem?
 intro i
 have e:(Value.agg #[vI6 0,vI6 0]).cells= #[Value.int .i64 0,vI6 0]:=rfl
 grind
def cut0 (m:Nat) (F:Nat→Nat):Nat→Nat:=fun s=>if s<m then 0 else F s
section
variable {w:World} {b g n nw ct mb s:Nat} {fm:Value} {F L A B E:Nat→Nat} {T:Nat→Bool} {fr:Int→Option (Nat×Nat)} {S:List It}
theorem clear_rep (h:Rep w b g n nw ct fm F L A B E T) (m:Nat) (h1:0<m) (hm:m≤64): ∃W1,(∀ty,(Builtin.clear_ #[256] ty #[.slice (some ⟨b,1,none⟩) m 64]).run Tryz.prog w= .ok (.tuple #[]) W1)∧Rep W1 b g n nw ct fm (cut0 m F) (cut0 m L) A B E T∧Only b g w W1∧W1.heap.size=w.heap.size:=by
 have hlen:(List.replicate (m*2) (Value.int .i64 0)).length=m*2:=by simp
 have hsome: ∀j,j<m*2→(w.cell? ⟨b,1+j,none⟩).isSome=true:=fun j hj=>by
  by_cases e:j%2=0
  ·rw[show 1+j=1+j/2*2 by omega,h.sf (j/2) (by omega)];rfl
  ·rw[show 1+j=1+j/2*2+1 by omega,h.sl (j/2) (by omega)];rfl
 have hin: ∀j,j<m*2→(w.setCells b 1 (List.replicate (m*2) (.int .i64 0))).cell? ⟨b,1+j,none⟩=some (.int .i64 0):=fun j hj=>by
  have:=World.cell?_setCells_in b (List.replicate (m*2) (Value.int .i64 0)) 1 w (by grind) j (by simpa using hj)
  rw[this]
  simp
 have hout: ∀o,(o<1∨1+m*2≤o)→(w.setCells b 1 (List.replicate (m*2) (.int .i64 0))).cell? ⟨b,o,none⟩=w.cell? ⟨b,o,none⟩:=fun o ho=>World.cell?_setCells_out b _ 1 w ⟨b,o,none⟩ (by grind)
 have hoth: ∀o,(w.setCells b 1 (List.replicate (m*2) (.int .i64 0))).cell? ⟨g,o,none⟩=w.cell? ⟨g,o,none⟩:=fun o=>World.cell?_setCells_out b _ 1 w ⟨g,o,none⟩ (fun e _=>mK)
 have hfz: ∀x,(w.setCells b 1 (List.replicate (m*2) (.int .i64 0))).frozen? x=w.frozen? x:=fun x=>World.frozen?_setCells b _ 1 w x
 have hsz: ∀(vs:List Value) (o:Nat) (w:World),(w.setCells b o vs).heap.size=w.heap.size:=by
  intro vs
  induction vs with
  |nil=>intro o w;rfl
  |cons v r ih=>intro o w;show((w.setCell ⟨b,o,none⟩ v).setCells b (o+1) r).heap.size=_;rw[ih];simp
 have hon: ∀(vs:List Value) (o:Nat) (w':World),Only b g w w'→Only b g w (w'.setCells b o vs):=by
  intro vs
  induction vs with
  |nil=>intro o w' q;exact q
  |cons v r ih=>intro o w' q;exact ih (o+1) _ (q.set _ _ (Or.inl rfl))
 refine⟨w.setCells b 1 (List.replicate (m*2) (.int .i64 0)),fun ty=> ?_,?_,hon _ _ _ (Only.refl b g w),hsz _ _ _⟩
 ·have hst:=run_storeCells_cells (P:=Tryz.prog) b 1 (List.replicate (m*2) (.int .i64 0)) 0 w (by grind) (fun j _=>h.fb _) (fun v hv=>by rw[List.eq_of_mem_replicate hv];rfl)
  have hz: ∀w,(zeroValue 174).run Tryz.prog w= .ok (.agg #[.int .i64 0,.int .i64 0]) w:=fun w=>by kernel_rfl
  have hc:=zero_row m
  have hst':=hst
  clear hst hin hout hoth hfz hsome hlen hsz hon
  generalize w.setCells b 1 (List.replicate (m*2) (.int .i64 0))=W1 at*
  generalize List.replicate (m*2) (Value.int .i64 0)=R at*
  obtain⟨m,rfl⟩: ∃k,m=k+1:=⟨m-1,by omega⟩
  simp[Builtin.clear_,run_underlying Tryz.underlying256,hz,hc,hst']
 ·refine⟨h.bg,?_,?_,?_,?_,fun x hx=> ?_,fun x hx=> ?_,fun x hx=> ?_,fun x hx=> ?_,fun x hx=> ?_,fun x hx=> ?_,fun o=> ?_,fun o=> ?_⟩
  ·grind[Wh.Rep.en]
  ·grind[Wh.Rep.tn]
  ·grind[Wh.Rep.tm]
  ·grind[Wh.Rep.tc]
  ·unfold cut0
   by_cases e:x<m
   ·rw[if_pos e,hin (x*2) (by omega)];rfl
   ·rw[if_neg e,hout (1+x*2) (by omega)];exact h.sf x hx
  ·unfold cut0
   by_cases e:x<m
   ·rw[if_pos e,show 1+x*2+1=1+(x*2+1) by omega,hin (x*2+1) (by omega)];rfl
   ·rw[if_neg e,hout (1+x*2+1) (by omega)];exact h.sl x hx
  ·rw[hoth];exact h.ea x hx
  ·rw[hoth];exact h.eb x hx
  ·rw[hoth];exact h.ee x hx
  ·rw[hoth];exact h.et x hx
  ·rw[hfz];exact h.fb o
  ·rw[hfz];exact h.fg o
theorem upTo_len (h:Srt S) (lo m:Nat):(upTo nw S lo m).length≤S.length:=by
 rw[upTo_eq h]
 grind
theorem iv_len (xs:List Nat):(iv xs).length=xs.length:=by simp[iv]
theorem sweep_ok (h:Rep w b g n nw ct fm F L A B E T) (hi:Inv n nw ct F L fr A B E T S) (hn:n≤1024) (to m:Nat) (ht:to<18446744073709551616) (hm:m=if to/64=nw/64 then to%64+1 else 64):
  vCa 85 #[vPt b,vU6 (to:Int)] w fun e w'=>(∃v,e= .returned v∧w'.ownsRow w.heap.size 3 1 v (upTo nw S (nw/64*64) m).length (iv (spots (upTo nw S (nw/64*64) m))))∧Rep w' b g n nw ct fm (cut0 m F) (cut0 m L) A B E T∧Only b g w w':=by
 have e0:=h.tn
 have hbb:=h.lt_b
 have hgl:=h.lt_g
 have hm64:m≤64:=by grind
 have hm1:0<m:=by grind
 have HT1:=veil (turn_ok to ht)
 have HT2:=veil (turn_ok nw hi.hw)
 have HB:=veil fun w1 (hb:vBw w w1)=>h.below hb
 have HLen:=veil hi.len_le
 have HU:=veil (fun j=>upTo_len (nw:=nw) hi.srt (nw/64*64) j)
 have HId:=veil fun j (hj:j<64) W (hW:Rep W b g n nw ct fm F L A B E T)=>by
  have hl:=hi.slot j hj
  have hlt:(grp nw S (nw/64*64+j)).length≤S.length:=List.length_filter_le _ _
  have:=hi.len_le
  have q:=ids_ok hW hl (fun p hp=>by
   obtain⟨y,hy,rfl⟩:=mem_spots.1 hp
   have:=hi.lt y (mem_grp.1 hy).1
   omega) (spots_nd (nd_sub hi.nd)) hn (by rw[spots_len];omega)
  rwa [spots_len] at q
 have HEnd:Hid (∀W v,vBw w W→W.ownsRow w.heap.size 3 1 v (upTo nw S (nw/64*64) m).length (iv (spots (upTo nw S (nw/64*64) m)))→ ∃W1,(∀ty,(Builtin.clear_ #[256] ty #[.slice (some (vAt b 1)) m 64]).run Tryz.prog W= .ok (.tuple #[]) W1)∧Hid (W1.ownsRow w.heap.size 3 1 v (upTo nw S (nw/64*64) m).length (iv (spots (upTo nw S (nw/64*64) m)))∧Rep W1 b g n nw ct fm (cut0 m F) (cut0 m L) A B E T∧Only b g w W1)):=fun W v hb ho=>by
  obtain⟨W1,hcl,hr1,ho1,_⟩:=clear_rep (h.below hb) m hm1 hm64
  refine⟨W1,hcl,own_kept ho (fun k hk=>ho1.block k (own_ge ho hk).2 (by have:=(own_ge ho hk).1;omega) (by have:=(own_ge ho hk).1;omega)),hr1,(Only.of_below hb).trans ho1⟩
 by_cases htn:to/64=nw/64
 ·rw[if_pos htn] at hm
  have hq:((nw/64:Nat):Int)=((to/64:Nat):Int):=by omega
  rw[hq] at HT2
  obtain⟨r,hr⟩: ∃r:Nat,to%64=r:=⟨_,rfl⟩
  rw[hr] at hm
  have hr64:r<64:=by omega
  have hmr:(m:Int)=(r:Int)+1:=by omega
  have hto:(to:Int)%64=(r:Int):=by omega
  have hto2:IntKind.u64.wrap ((to:Int)%64)=(r:Int):=by rw[hto];simp[IntKind.wrap,IntKind.bits,IntKind.signed];omega
  have hto3:IntKind.u64.wrap ((r:Int)+1)=(m:Int):=by rw[hmr];simp[IntKind.wrap,IntKind.bits,IntKind.signed];omega
  have hm0:(m:Int)≤64:=by omega
  clear h hi htn hq hm hmr
  generalize ((to/64:Nat):Int)=q1 at*
  refine ge ?_
  go_wp2
  go_region_held3 (fun w'=>w'.cell? (vA0 b)=some (vU6 (nw:Int))) (go_keep)
   (first
    |(go_at_call 86;first
      |(refine(HT1.out _).mono ?_;rintro e w1 ⟨rfl,hw⟩;subst hw)
      |(refine(HT2.out _).mono ?_;rintro e w1 ⟨rfl,hw⟩;subst hw)))
  go_wp2
  clear hto hto2 hto3
  go_loopw [6,30] (fun o i wr=> ∃j:Nat,j≤m∧i=vI6 j∧vBw w wr∧wr.ownsRow w.heap.size 3 1 o (upTo nw S (nw/64*64) j).length (iv (spots (upTo nw S (nw/64*64) j)))) (fun _ i _=>m-(intOf i).toNat)
  case atStart=>exact⟨0,by omega,rfl,bzR.drew,World.ownsRow_nil _ _ _ _⟩
  case round=>
   obtain⟨j,hj,rfl,hbel,hown⟩:=hrel
   obtain⟨av,cv,rfl⟩:=own_slice hown
   have HBE:=veil hbel
   have HO:=veil hown
   have hsz:=hbel.size
   by_cases hj5:j<m
   ·have hr:=HB.out _ hbel
    have e1:=hr.sf j (by omega)
    have e2:=hr.sl j (by omega)
    have hbb2:=hr.lt_b
    have y1: ¬b=wr.heap.size:=by omega
    have HR:=veil hr
    have HI:=veil (HId.out j (by omega))
    have HL1:=HLen.out
    have HL2:=HU.out j
    have HL3:(grp nw S (nw/64*64+j)).length≤S.length:=List.length_filter_le _ _
    have HEQ:Hid (upTo nw S (nw/64*64) (j+1)=upTo nw S (nw/64*64) j++grp nw S (nw/64*64+j)):=rfl
    generalize upTo nw S (nw/64*64) j=U at*
    generalize grp nw S (nw/64*64+j)=G at*
    have hjb:(j:Int)<(m:Int):=by omega
    generalize F j=fj at*
    generalize L j=lj at*
    clear hr hbel hown HId HU HEnd HB HT1 HT2
    go_wp2_with (first
     |(go_at_call 140;refine(HI.out _ (by exact HR.out.alloc _)).mono ?_;rintro e w5 ⟨⟨v5,rfl,ho5⟩,hb5⟩;obtain⟨a5,c5,rfl⟩:=own_slice ho5;have HO5:=veil ho5;have HV5:=veil (own_below (HO.out.alloc _) hb5);have HB5:=veil ((HBE.out.alloc HBE.out.size _).trans (hb5.mono (by simp;omega)));clear ho5 hb5)
     |(at_builtin;refine wpList_append_rows _ rfl _ _ rfl w.heap.size _ _ _ _ _ _ _ rfl HV5.out rfl HO5.out (iv_one _) (by omega) HB5.out.size ?_;intro v' w6 hown' hgrow;obtain⟨a6,c6,rfl⟩:=own_slice hown';have HO6:=veil hown';have HB6:=veil (HB5.out.grown hgrow HB5.out.size (fun k hk=>(own_ge HO.out hk).1));clear hown' hgrow))
    go_roundw
    case rel=>exact⟨j+1,by omega,by go_num,HB6.out,by rw[HEQ.out,spots_append,iv_append,List.length_append];exact HO6.out⟩
    case measure=>simp[intOf];omega
   ·obtain rfl:m=j:=by omega
    obtain⟨W1,hcl,HX⟩:=HEnd.out wr _ hbel hown
    clear hbel hown HB HId HU HO HEnd HT1 HT2
    go_wp2
    go_ret
    exact⟨⟨_,rfl,HX.out.1⟩,HX.out.2⟩
 ·rw[if_neg htn] at hm
  subst hm
  have hne: ¬((to/64:Nat):Int)=((nw/64:Nat):Int):=by omega
  have hneb:(((to/64:Nat):Int)==((nw/64:Nat):Int))=false:=by grind
  generalize ((to/64:Nat):Int)=q1 at*
  generalize ((nw/64:Nat):Int)=q2 at*
  clear h hi htn
  refine ge ?_
  go_wp2
  go_region_held3 (fun w'=>w'.cell? (vA0 b)=some (vU6 (nw:Int))) (go_keep)
   (first
    |(go_at_call 86;first
      |(refine(HT1.out _).mono ?_;rintro e w1 ⟨rfl,hw⟩;subst hw)
      |(refine cS (HT2.out _) ?_)))
  go_wp2
  go_loopw [6,30] (fun o i wr=> ∃j:Nat,j≤64∧i=vI6 j∧vBw w wr∧wr.ownsRow w.heap.size 3 1 o (upTo nw S (nw/64*64) j).length (iv (spots (upTo nw S (nw/64*64) j)))) (fun _ i _=>64-(intOf i).toNat)
  case atStart=>exact⟨0,by omega,rfl,bzR.drew,World.ownsRow_nil _ _ _ _⟩
  case round=>
   obtain⟨j,hj,rfl,hbel,hown⟩:=hrel
   obtain⟨av,cv,rfl⟩:=own_slice hown
   have HBE:=veil hbel
   have HO:=veil hown
   have hsz:=hbel.size
   by_cases hj5:j<64
   ·have hr:=HB.out _ hbel
    have e1:=hr.sf j (by omega)
    have e2:=hr.sl j (by omega)
    have hbb2:=hr.lt_b
    have y1: ¬b=wr.heap.size:=by omega
    have HR:=veil hr
    have HI:=veil (HId.out j (by omega))
    have HL1:=HLen.out
    have HL2:=HU.out j
    have HL3:(grp nw S (nw/64*64+j)).length≤S.length:=List.length_filter_le _ _
    have HEQ:Hid (upTo nw S (nw/64*64) (j+1)=upTo nw S (nw/64*64) j++grp nw S (nw/64*64+j)):=rfl
    generalize upTo nw S (nw/64*64) j=U at*
    generalize grp nw S (nw/64*64+j)=G at*
    have hjb:(j:Int)<64:=by omega
    generalize F j=fj at*
    generalize L j=lj at*
    clear hr hbel hown HId HU HEnd HB HT1 HT2
    go_wp2_with (first
     |(go_at_call 140;refine(HI.out _ (by exact HR.out.alloc _)).mono ?_;rintro e w5 ⟨⟨v5,rfl,ho5⟩,hb5⟩;obtain⟨a5,c5,rfl⟩:=own_slice ho5;have HO5:=veil ho5;have HV5:=veil (own_below (HO.out.alloc _) hb5);have HB5:=veil ((HBE.out.alloc HBE.out.size _).trans (hb5.mono (by simp;omega)));clear ho5 hb5)
     |(at_builtin;refine wpList_append_rows _ rfl _ _ rfl w.heap.size _ _ _ _ _ _ _ rfl HV5.out rfl HO5.out (iv_one _) (by omega) HB5.out.size ?_;intro v' w6 hown' hgrow;obtain⟨a6,c6,rfl⟩:=own_slice hown';have HO6:=veil hown';have HB6:=veil (HB5.out.grown hgrow HB5.out.size (fun k hk=>(own_ge HO.out hk).1));clear hown' hgrow))
    go_roundw
    case rel=>exact⟨j+1,by omega,by go_num,HB6.out,by rw[HEQ.out,spots_append,iv_append,List.length_append];exact HO6.out⟩
    case measure=>simp[intOf];omega
   ·obtain rfl:j=64:=by omega
    obtain⟨W1,hcl,HX⟩:=HEnd.out wr _ hbel hown
    clear hbel hown HB HId HU HO HEnd HT1 HT2
    go_wp2
    go_ret
    exact⟨⟨_,rfl,HX.out.1⟩,HX.out.2⟩
end
def RowU (W:World) (r cap n:Nat) (D:Nat→Nat):Prop:= ∃cur:Array Value,W.heap[r]? =some (.cells cur 25 (0,0))∧cur.size=cap∧ ∀j,j<n→cur[j]? =some (vU6 (D j:Int))
def swp (D:Nat→Nat) (j:Nat):Nat→Nat:=upd (upd D j (D (j-1))) (j-1) (D j)
section
variable {W W':World} {r cap n:Nat} {D D':Nat→Nat}
theorem RowU.lt (h:RowU W r cap n D):r<W.heap.size:=by obtain⟨cur,h1,_⟩:=h;grind
theorem RowU.cell (h:RowU W r cap n D) (j:Nat) (hj:j<n):W.cell? (vAt r j)=some (vU6 (D j:Int)):=by
 obtain⟨cur,h1,_,h3⟩:=h
 unfold World.cell?
 grind
theorem RowU.frozen (h:RowU W r cap n D) (j:Nat):W.frozen? (vAt r j)=false:=by
 obtain⟨cur,h1,_⟩:=h
 unfold World.frozen?
 grind
theorem RowU.kept (h:RowU W r cap n D) (hb:W'.heap[r]? =W.heap[r]?):RowU W' r cap n D:=by
 obtain⟨cur,h1,h2⟩:=h
 exact⟨cur,by grind,h2⟩
theorem RowU.set (h:RowU W r cap n D) (j v:Nat) (hj:j<n):RowU (W.setCell (vAt r j) (vU6 (v:Int))) r cap n (upd D j v):=by
 obtain⟨cur,h1,h2,h3⟩:=h
 refine⟨_,Go.Joins.block_setCell h1 _,by grind,fun k hk=> ?_⟩
 grind[upd]
end
structure Half (n i j:Nat) (D0 D:Nat→Nat):Prop where
 inj: ∀a c,a<n→c<n→D a=D c→a=c
 mem: ∀v,(∃a,a<n∧D a=v)↔ ∃a,a<n∧D0 a=v
 srt: ∀a c,a<c→c≤i→a≠j→c≠j→D a<D c
 low: ∀c,j<c→c≤i→D j<D c
theorem Half.step {n i j:Nat} {D0 D:Nat→Nat} (h:Half n i j D0 D) (hi:i<n) (hj:0<j) (hji:j≤i) (hlt:D j<D (j-1)):Half n i (j-1) D0 (swp D j):=by
 have e1:swp D j (j-1)=D j:=upd_same _ _ _
 have e2:swp D j j=D (j-1):=by unfold swp;grind[upd]
 have e3: ∀a,a≠j→a≠j-1→swp D j a=D a:=fun a h1 h2=>by unfold swp;grind[upd]
 have hcase: ∀a,a=j∨a=j-1∨(a≠j∧a≠j-1):=fun a=>by omega
 refine⟨fun a c ha hc e=> ?_,fun v=> ?_,fun a c hac hci ha hc=> ?_,fun c hc hci=> ?_⟩
 ·rcases hcase a with rfl|rfl|⟨a1,a2⟩<;>rcases hcase c with rfl|rfl|⟨c1,c2⟩
  ·rfl
  ·omega
  ·rw[e2,e3 c c1 c2] at e;have:=h.inj _ _ (by omega) hc e;omega
  ·omega
  ·rfl
  ·rw[e1,e3 c c1 c2] at e;have:=h.inj _ _ (by omega) hc e;omega
  ·rw[e2,e3 a a1 a2] at e;have:=h.inj _ _ ha (by omega) e;omega
  ·rw[e1,e3 a a1 a2] at e;have:=h.inj _ _ ha (by omega) e;omega
  grind[Wh.Half.inj]
 ·rw[←h.mem v]
  grind
 ·rcases hcase a with rfl|q|⟨a1,a2⟩
  ·rw[e2,e3 c (by omega) (by omega)];exact h.srt _ _ (by omega) hci (by omega) (by omega)
  ·omega
  ·rcases hcase c with rfl|q|⟨c1,c2⟩
   ·rw[e2,e3 a a1 a2];exact h.srt _ _ (by omega) (by omega) a1 (by omega)
   ·omega
   grind[Wh.Half.srt]
 ·rw[e1]
  by_cases e:c=j
  ·grind
  ·rw[e3 c e (by omega)];exact h.low c (by omega) hci
theorem Half.done {n i j:Nat} {D0 D:Nat→Nat} (h:Half n i j D0 D) (hi:i<n) (hji:j≤i) (hj:j=0∨ ¬D j<D (j-1)): ∀a c,a<c→c≤i→D a<D c:=by
 intro a c hac hci
 by_cases h1:a=j
 ·grind[Wh.Half.low]
 ·by_cases h2:c=j
  ·subst h2
   rcases hj with q|q
   ·omega
   ·have hne:D (c-1)≠D c:=fun e=>by have:=h.inj _ _ (by omega) (by omega) e;omega
    by_cases h3:a=c-1
    ·grind
    ·have:=h.srt a (c-1) (by omega) (by omega) h1 (by omega);omega
  grind[Wh.Half.srt]
theorem isNaN_ok (x:Int) (W:World):vS 232 #[vU6 x] W (.bool false):=by
 refine ge ?_
 go_wp2
 go_ret
 simp
theorem less_ok (x y:Int) (W:World):vS 212 #[vU6 x,vU6 y] W (.bool (decide (x<y))):=by
 have H:=veil (fun x W=>isNaN_ok x W)
 refine ge ?_
 go_wp2_with (first
  |(go_at_call 232;refine cS (H.out _ _) ?_))
 go_ret
 simp
theorem insertion_ok (W:World) (r cap n:Nat) (D:Nat→Nat) (h:RowU W r cap n D) (hn:n≤100000) (hinj: ∀a c,a<n→c<n→D a=D c→a=c):
  vCa 206 #[.slice (some (vA0 r)) n cap,vI6 0,vI6 (n:Int)] W fun e w'=>e=vRt #[]∧ ∃D',RowU w' r cap n D'∧(∀v,(∃a,a<n∧D' a=v)↔ ∃a,a<n∧D a=v)∧(∀a c,a<c→c<n→D' a<D' c)∧Fr (fun k=>k=r) W w':=by
 have HL:=veil (fun x y W=>less_ok x y W)
 have HI0:=veil hinj
 have H0:=veil h
 clear h hinj
 refine ge ?_
 go_wp2
 go_loopw [6] (fun iv wr=> ∃(i:Nat) (D':Nat→Nat),1≤i∧(i≤n∨i=1)∧iv=vI6 (i:Int)∧RowU wr r cap n D'∧(∀a c,a<n→c<n→D' a=D' c→a=c)∧(∀v,(∃a,a<n∧D' a=v)↔ ∃a,a<n∧D a=v)∧(∀a c,a<c→c<i→c<n→D' a<D' c)∧Fr (fun k=>k=r) W wr) (fun iv _=>n-(intOf iv).toNat)
 case atStart=>exact⟨1,D,by omega,.inr rfl,rfl,H0.out,HI0.out,fun v=>Iff.rfl,fun a c h1 h2 _=>by omega,Fr.refl _ _⟩
 case round=>
  obtain⟨i,D1,h1,h2,rfl,hrow,hinj,hmem,hsrt,hfr⟩:=hrel
  by_cases hin:i<n
  ·have hin':(i:Int)<(n:Int):=by omega
   have HF0:=veil hfr
   have HH:Hid (Half n i i D D1):=⟨hinj,hmem,fun a c hac hci ha hc=>hsrt a c hac (by omega) (by omega),fun c hc hci=>by omega⟩
   have HRw:=veil hrow
   clear hrow hinj hmem hsrt hfr H0 HI0
   go_wp2
   go_loopw [7] (fun jv wq=> ∃(j:Nat) (D2:Nat→Nat),j≤i∧jv=vI6 (j:Int)∧RowU wq r cap n D2∧Half n i j D D2∧Fr (fun k=>k=r) W wq) (fun jv _=>(intOf jv).toNat)
   case atStart=>exact⟨i,D1,by omega,rfl,HRw.out,HH.out,HF0.out⟩
   case round=>
    obtain⟨j,D2,hji,rfl,hrow,hh,hfr⟩:=hrel
    clear HRw HH HF0
    by_cases hj0:j=0
    ·subst hj0
     have hd:=hh.done hin hji (.inl rfl)
     have HD:=veil hd
     have HRw:=veil hrow
     have HHf:=veil hh
     have HFr:=veil hfr
     clear hd hh hfr
     go_wp2
     go_quiet (fail)
     go_wp2
     go_roundw
     case rel=>exact⟨i+1,D2,by omega,.inl (by omega),by go_num,HRw.out.kept rfl,HHf.out.inj,HHf.out.mem,fun a c q1 q2 q3=>HD.out a c q1 (by omega),HFr.out.drewN _⟩
     case measure=>simp[intOf];omega
    ·obtain⟨k,rfl⟩: ∃k,j=k+1:=⟨j-1,by omega⟩
     have c1:=hrow.cell (k+1) (by omega)
     have c0:=hrow.cell k (by omega)
     have fz:=hrow.frozen
     have hjv:((k+1:Nat):Int)=(k:Int)+1:=by omega
     rw[hjv]
     have hk1:k+1<n:=by omega
     have hk0:k<n:=by omega
     have hkb:k≤100000:=by omega
     have hg0:decide (0<(k:Int)+1)=true:=decide_eq_true (by omega)
     have hx1:(k:Int)+1<(n:Int):=by omega
     have hx0:(k:Int)<(n:Int):=by omega
     have hx2:(0:Int)≤(k:Int)+1:=by omega
     have hx3:(0:Int)≤(k:Int):=by omega
     have hx4:((k:Int)+1).toNat=k+1:=by omega
     have hx5:IntKind.i64.wrap ((k:Int)+1-1)=(k:Int):=by simp[IntKind.wrap,IntKind.bits,IntKind.signed];omega
     have hx6:IntKind.i64.wrap (k:Int)=(k:Int):=by grind
     have hdn:=fun q=>hh.done hin hji (.inr q)
     have hst:=fun q=>hh.step hin (by omega) hji q
     have HDN:=veil hdn
     have HST:=veil hst
     have HRw:=veil hrow
     have HHf:=veil hh
     have HFr:=veil hfr
     have HLs:=veil (fun W=>HL.out (D2 (k+1):Int) (D2 k:Int) W)
     have hlts:=hrow.lt
     clear hdn hst hh hfr hj0 hjv HL hrow
     by_cases hlt:D2 (k+1)<D2 k
     ·have hlt':decide ((D2 (k+1):Int)<(D2 k:Int))=true:=by grind
      rw[hlt'] at HLs
      go_wp2
      go_region_held3 (fun w'=>w'.cell? (vAt r (k+1))=some (vU6 (D2 (k+1):Int))∧w'.cell? (vAt r k)=some (vU6 (D2 k:Int))) (go_keep)
       (first
        |(go_at_call 212;refine(HLs.out _).mono ?_;rintro e w1 ⟨rfl,hw⟩;subst hw))
      go_wp2
      go_region
      go_wp2
      go_roundw
      case rel=>
       refine⟨k,swp D2 (k+1),by omega,rfl,?_,HST.out (by grind),?_⟩
       ·exact RowU.kept ((HRw.out.set (k+1) (D2 k) (by omega)).set k (D2 (k+1)) (by omega)) rfl
       ·exact(((HFr.out.setCell (a:=(vAt r (k+1))) rfl _).setCell (a:=(vAt r k)) rfl _).drew).drew
      case measure=>simp[intOf]
     ·have hlt':decide ((D2 (k+1):Int)<(D2 k:Int))=false:=by grind
      rw[hlt'] at HLs
      have HD:=veil (HDN.out (by grind))
      go_wp2
      go_region_held3 (fun w'=>w'.cell? (vAt r (k+1))=some (vU6 (D2 (k+1):Int))∧w'.cell? (vAt r k)=some (vU6 (D2 k:Int))) (go_keep)
       (first
        |(go_at_call 212;refine cS (HLs.out _) ?_))
      go_wp2
      go_roundw
      case rel=>exact⟨i+1,D2,by omega,.inl (by omega),by go_num,HRw.out.kept rfl,HHf.out.inj,HHf.out.mem,fun a c q1 q2 q3=>HD.out a c q1 (by omega),HFr.out.drew⟩
      case measure=>simp[intOf];omega
  ·have hin': ¬(i:Int)<(n:Int):=by omega
   have HE:=veil (And.intro hrow (And.intro hmem (And.intro (fun a c (q1:a<c) (q2:c<n)=>hsrt a c q1 (by omega) q2) hfr)))
   clear hrow hinj hmem hsrt hfr H0 HI0
   go_wp2
   go_end0
   exact⟨rfl,D1,HE.out⟩
theorem pdq_ok (W:World) (r cap n:Nat) (D:Nat→Nat) (q:Int) (h:RowU W r cap n D) (hn:n≤12) (hinj: ∀a c,a<n→c<n→D a=D c→a=c):
  vCa 179 #[.slice (some (vA0 r)) n cap,vI6 0,vI6 (n:Int),vI6 q] W fun e w'=>e=vRt #[]∧ ∃D',RowU w' r cap n D'∧(∀v,(∃a,a<n∧D' a=v)↔ ∃a,a<n∧D a=v)∧(∀a c,a<c→c<n→D' a<D' c)∧Fr (fun k=>k=r) W w':=by
 have HI:=veil (insertion_ok W r cap n D h (by omega) hinj)
 have hn':(n:Int)≤12:=by omega
 clear h hinj
 refine ge ?_
 go_wp2
 go_loopw [1,2] (fun av bv wr=>av=vI6 0∧bv=vI6 (n:Int)∧wr=W) (fun _ _ _=>0)
 case atStart=>simp
 case round=>
  obtain⟨rfl,rfl,rfl⟩:=hrel
  go_wp2_with (first
   |(go_at_call 206;refine cH HI.out fun w1 HX=> ?_))
  simp[bodyPost,results,Tryz.results179,go_sem]
  exact HX.out
def Sorts (m:Nat):Prop:= ∀(W:World) (r cap n:Nat) (D:Nat→Nat),RowU W r cap n D→n≤m→(∀a c,a<n→c<n→D a=D c→a=c)→
 vCa 141 #[.slice (some (vA0 r)) n cap] W fun e w'=>e=vRt #[]∧ ∃D',RowU w' r cap n D'∧(∀v,(∃a,a<n∧D' a=v)↔ ∃a,a<n∧D a=v)∧(∀a c,a<c→c<n→D' a<D' c)∧Fr (fun k=>k=r) W w'
theorem len64_ok (x:Int) (h0:0≤x) (h:x≤12) (W:World):vCa 216 #[vU6 x] W fun e w'=>(∃q:Int,e= .returned (vI6 q))∧w'=W:=by
 have hx:x=0∨x=1∨x=2∨x=3∨x=4∨x=5∨x=6∨x=7∨x=8∨x=9∨x=10∨x=11∨x=12:=by omega
 rcases hx with rfl|rfl|rfl|rfl|rfl|rfl|rfl|rfl|rfl|rfl|rfl|rfl|rfl<;>
 ·refine ge ?_
  go_wp2
  go_ret
  exact⟨⟨_,rfl⟩,rfl⟩
theorem len_bits (x:Int) (h0:0≤x) (h:x≤12) (W:World):vCa 180 #[vU6 x] W fun e w'=>(∃q:Int,e= .returned (vI6 q))∧w'=W:=by
 have H:=veil (len64_ok x h0 h)
 refine ge ?_
 go_wp2_with (first
  |(go_at_call 216;refine(H.out _).mono ?_;rintro e w1 ⟨⟨q,rfl⟩,hw⟩;subst hw))
 go_ret
 simp
theorem sorts12:Sorts 12:=by
 intro W r cap n D h hn hinj
 have HP:=veil (fun q=>pdq_ok W r cap n D q h hn hinj)
 have HB:=veil (len_bits (n:Int) (by omega) (by omega))
 have hw:IntKind.u64.wrap (n:Int)=(n:Int):=by rw[IntKind.wrap_u64];omega
 clear h hinj
 refine ge ?_
 go_wp2_with (first
  |(go_at_call 180;refine(HB.out _).mono ?_;rintro e w1 ⟨⟨q,rfl⟩,hw⟩;replace hw:=hw.symm;subst hw)
  |(go_at_call 179;refine cH (HP.out _) fun w2 HX=> ?_))
 go_end0
 exact⟨rfl,HX.out⟩
theorem sort_nil (W:World):vS 141 #[.slice none 0 0] W (.tuple #[]):=by
 have HB:=veil (len_bits 0 (by omega) (by omega))
 have HI:Hid (∀W,vS 206 #[.slice none 0 0,vI6 0,vI6 0] W (.tuple #[])):=by
  show∀W,_
  intro W
  refine ge ?_
  go_wp2
  go_loopw [6] (fun iv wr=>iv=vI6 1∧wr=W) (fun _ _=>0)
  case atStart=>simp
  case round=>
   obtain⟨rfl,rfl⟩:=hrel
   go_wp2
   go_end0
   simp
 have HP:Hid (∀q W,vS 179 #[.slice none 0 0,vI6 0,vI6 0,vI6 q] W (.tuple #[])):=by
  show∀q W,_
  intro q W
  refine ge ?_
  go_wp2
  go_loopw [1,2] (fun av bv wr=>av=vI6 0∧bv=vI6 0∧wr=W) (fun _ _ _=>0)
  case atStart=>simp
  case round=>
   obtain⟨rfl,rfl,rfl⟩:=hrel
   go_wp2_with (first
    |(go_at_call 206;refine cS (HI.out _) ?_))
   simp[bodyPost,results,Tryz.results179,go_sem]
 refine ge ?_
 go_wp2_with (first
  |(go_at_call 180;refine(HB.out _).mono ?_;rintro e w1 ⟨⟨q,rfl⟩,hw⟩;replace hw:=hw.symm;subst hw)
  |(go_at_call 179;refine cS (HP.out _ _) ?_))
 go_end0
 simp
end Go.Proofs.YtnmhcgpnhlhcgaaGreatDoor.Wh
namespace Go.Proofs.YtnmhcgpnhlhcgaaGreatDoor.Wh
open Go.RowKit
def ffF (to:Nat) (fr:Int→Option (Nat×Nat)) (ls:List Nat):Nat→Nat:=fun s=>if to<to/64*64+s∧(to/64*64+s)∈ls then((fr ((to/64*64+s:Nat):Int)).getD (0,0)).1 else 0
def ffL (to:Nat) (fr:Int→Option (Nat×Nat)) (ls:List Nat):Nat→Nat:=fun s=>if to<to/64*64+s∧(to/64*64+s)∈ls then((fr ((to/64*64+s:Nat):Int)).getD (0,0)).2 else 0
def frL (fr:Int→Option (Nat×Nat)) (ls:List Nat):Int→Option (Nat×Nat):=fun i=>if i∈ls.map (fun (k:Nat)=>(k:Int)) then none else fr i
def dueL (to nw:Nat) (S:List It) (ls:List Nat):List It:=many nw S (ls.filter (fun k=>decide (k≤to)))
section
variable {to nw:Nat} {fr:Int→Option (Nat×Nat)} {ls:List Nat} {t:Nat} {S:List It}
theorem ffF_low (h:t≤to):ffF to fr (ls++[t])=ffF to fr ls:=by
 funext s
 unfold ffF
 grind
theorem ffL_low (h:t≤to):ffL to fr (ls++[t])=ffL to fr ls:=by
 funext s
 unfold ffL
 grind
theorem ffF_high (h:to<t) (h2:t/64=to/64):ffF to fr (ls++[t])=upd (ffF to fr ls) (t%64) ((fr (t:Int)).getD (0,0)).1:=by
 grind[upd_same,Wh.ffF,upd_other]
theorem ffL_high (h:to<t) (h2:t/64=to/64):ffL to fr (ls++[t])=upd (ffL to fr ls) (t%64) ((fr (t:Int)).getD (0,0)).2:=by
 grind[upd_same,Wh.ffL,upd_other]
theorem frL_more:frL fr (ls++[t])=setF (frL fr ls) (t:Int) none:=by
 grind[Wh.frL,Wh.setF]
theorem frL_at (h:t ∉ ls):frL fr ls (t:Int)=fr (t:Int):=by
 unfold frL
 grind
theorem dueL_low (h:t≤to):dueL to nw S (ls++[t])=dueL to nw S ls++grp nw S t:=by
 unfold dueL many
 grind
theorem dueL_high (h:to<t):dueL to nw S (ls++[t])=dueL to nw S ls:=by
 unfold dueL many
 grind
end
def uv (ts:List Nat):List Value:=ts.map (fun (x:Nat)=>Value.int .u64 (x:Int))
theorem infoU64:(Tryz.prog.info? 25).map (fun i=>(i.zero,i.size,i.bytes))=some (some (vU6 0),1,8):=by rfl
def lsD (D:Nat→Nat) (j:Nat):List Nat:=(List.range j).map D
theorem lsD_succ (D:Nat→Nat) (j:Nat):lsD D (j+1)=lsD D j++[D j]:=by grind[Wh.lsD,List.range_succ]
theorem mem_lsD {D:Nat→Nat} {j v:Nat}:v∈lsD D j↔ ∃a,a<j∧D a=v:=by
 unfold lsD
 simp
theorem rowU_of {W:World} {base r cap n:Nat} {ts:List Nat} (h:W.ownsRow base 25 1 (.slice (some (vA0 r)) n cap) n (uv ts)):RowU W r cap n (fun j=>ts.getD j 0)∧ts.length=n∧base≤r:=by
 obtain⟨h1,h2⟩:=h
 have hlen:ts.length=n:=by simpa [uv] using h1
 rcases h2 with ⟨e,_⟩|⟨g,c',cur,e,hb,hg,hn,hc,hs,ht⟩
 ·cases e
 ·cases e
  refine⟨⟨cur,hg,by omega,fun j hj=> ?_⟩,hlen,hb⟩
  have this:(cur.toList.take (n*1))[j]? =(uv ts)[j]? :=by rw[ht]
  grind[Wh.uv]
attribute [local go_sem ↓] Go.wp_at_zero Go.wp_at_succ
theorem same_u64 (x y:Int):(Lit.int .u64 x).sameKey (.int .u64 y)=decide (x=y):=by
 rw[Bool.eq_iff_iff,WideAt.sameKey_iff (lit_key y)]
 simp
theorem wpList_next_m (w:World) {ops:Array Oper} {rest:List Oper} {o:Oper} {a:Act} {Q:Exit→Act→World→Prop} (hg:o.guard=none) (it:Operand) (hop:o.op=Op.next it false) (mb r s:Nat) (D:DataW Unit) (left:Lit→Bool) (cnt:Nat)
  (hit:a.eval it= .pointer (some ⟨r,0,none⟩)) (h:w.ranges Tryz.prog 25 RL mb r s D left cnt)
  (hDone:cnt=0→(∀kl,left kl=false)→wpList Tryz.prog ops Q rest (a.put o.dst (.tuple #[.bool false])) w)
  (hMore: ∀(k:Nat) (f l:Int) (w':World) (cnt':Nat),k<18446744073709551616→left (.int .u64 (k:Int))=true→Maps.has D (.int .u64 (k:Int))=true→w'.ranges Tryz.prog 25 RL mb r s D (fun z=>left z&& !z.sameKey (.int .u64 (k:Int))) cnt'→cnt'<cnt→
   w.grownBy w' (some r)→w'.heap.size=w.heap.size→(Instr.entry (.pointer (some ⟨r,0,none⟩))).run Tryz.prog w'= .ok (.tuple #[.int .u64 (k:Int),.agg #[.int .i64 f,.int .i64 l]]) w'→wpList Tryz.prog ops Q rest (a.put o.dst (.tuple #[.bool true,.int .u64 (k:Int),.agg #[.int .i64 f,.int .i64 l]])) w'):
  wpList Tryz.prog ops Q (o::rest) a w:=by
 refine wpList_next_ranges w hg it hop 25 keyU RL (Value.int .u64) (fun c:Int×Int=> .agg #[.int .i64 c.1,.int .i64 c.2]) (fun key kl hk=>by obtain⟨x,hx,_⟩:=Maps.keyOf_int_inv mK hk;exact⟨x,hx⟩) (fun v y hv=>by obtain⟨a,c,rfl,_⟩:=RL_inv hv;exact⟨(a,c),rfl⟩) mb r s D left cnt hit h hDone ?_
 intro x c kl y w' cnt' hkey hlk hv hat hrg hlt hgr hsz hen
 obtain⟨x',ex,rfl,hwx⟩:=Maps.keyOf_int_inv mK hkey
 cases ex
 have hb:0≤x∧x<18446744073709551616:=by
  simp[Lit.wf,IntKind.min,IntKind.max,IntKind.bits,IntKind.signed] at hwx
  omega
 obtain⟨k,rfl⟩:=Int.eq_ofNat_of_zero_le hb.1
 exact hMore k c.1 c.2 w' cnt' (by omega) hlk (Maps.has_true_of_atKey hat) hrg hlt hgr hsz hen
section
variable {w:World} {b g mb n nw ct s:Nat} {F L A B E F0 L0:Nat→Nat} {T:Nat→Bool} {fr:Int→Option (Nat×Nat)} {S:List It}
def met (fr:Int→Option (Nat×Nat)) (to k:Nat):Prop:=(fr (k:Int)).isSome=true∧k/64≤to/64
theorem met_len (hi:Inv n nw ct F L fr A B E T S) {to:Nat} (ts:List Nat) (hn:ts.Nodup) (hm: ∀k∈ts,met fr to k):ts.length≤S.length:=by
 have:=len_le_of_sub (l:=ts.map (fun (k:Nat)=>(k:Int))) (m:=S.map (fun x=>(ky nw x:Int))) (by
  grind) (fun x hx=>by
   obtain⟨k,hk,rfl⟩:=List.mem_map.1 hx
   obtain⟨h1,_⟩:=hm k hk
   obtain⟨k',e,hk'⟩:=hi.out _ h1
   obtain rfl:k=k':=by omega
   rcases hi.far k hk' with ⟨e,_⟩|⟨f,l,_,e,_⟩
   ·grind
   ·obtain⟨y,hy⟩:=List.exists_mem_of_ne_nil _ e
    obtain⟨h3,h4⟩:=mem_grp.1 hy
    grind)
 grind
theorem lsD_srt {D:Nat→Nat} {N j:Nat} (h: ∀a c,a<c→c<N→D a<D c) (hj:j≤N):(lsD D j).Pairwise (· < ·):=by
 grind[List.pairwise_iff_getElem,Wh.lsD]
theorem dueL_len (hs:Srt S) {to:Nat} {ls:List Nat} (h:ls.Pairwise (· < ·)):(dueL to nw S ls).length≤S.length:=by
 grind[Wh.dueL,Wh.many_eq]
theorem fetch_ok (h:Rep w b g n nw ct (.map (some mb)) F0 L0 A B E T) (hF0:F0=fun _=>0) (hL0:L0=fun _=>0) (hm:IsM w mb fr s) (hi:Inv n nw ct F L fr A B E T S) (hbm:b≠mb) (hgm:g≠mb) (hn:n≤1024) (m:Nat) (hS:Sorts m) (hnm:n≤m)
  (to:Nat) (ht:to<18446744073709551616) (hto:nw/64<to/64):
  Calls Tryz.prog 87 #[.pointer (some ⟨b,0,none⟩),.int .u64 (to:Int)] w fun e w'=> ∃ls:List Nat,ls.Pairwise (· < ·)∧(∀k,k∈ls↔met fr to k)∧(∃v,e= .returned v∧w'.ownsRow w.heap.size 3 1 v (dueL to nw S ls).length (iv (spots (dueL to nw S ls))))∧
   Rep w' b g n nw ct (.map (some mb)) (ffF to fr ls) (ffL to fr ls) A B E T∧(∃s',IsM w' mb (frL fr ls) s')∧Fr (O3 b g mb) w w':=by
 obtain⟨i0,hii,hz0,hz1,hz2⟩:=info_parts infoU64
 have HM0:=veil hm
 obtain⟨D,hD,hD1,hD2,hD3⟩:=hm
 have e0:=h.tm
 have hbb:=h.lt_b
 have hgg:=h.lt_g
 have hmlt:=hD.lt
 have HD:=veil hD
 have HD1:=veil hD1
 have HR:=veil h
 have HI:=veil hi
 have HT1:=veil (fun x hx=>turn_ok x hx)
 have HT2:=veil (turn_ok to ht)
 clear h hi hD hD1
 refine ge ?_
 go_wp2_with (first|(at_range;refine wpList_range_own _ rfl _ 171 rfl 25 174 keyU Tryz.underlying171 RL mb s D rfl HD.out ?_;intro w0 hrg0 hg0 hs0;have HRG:=veil hrg0;have HG0:=veil hg0;clear hrg0 hg0))
 go_frame
 go_loopw [5] (fun v wr=> ∃(ts:List Nat) (left:Lit→Bool) (cnt:Nat),wr.ranges Tryz.prog 25 RL mb w.heap.size s D left cnt∧Below w.heap.size w wr∧wr.ownsRow w.heap.size 25 1 v ts.length (uv ts)∧ts.Nodup∧(∀k:Nat,k∈ts↔(met fr to k∧left (.int .u64 (k:Int))=false))) (fun _ wr=>wr.rangeLeft mb w.heap.size)
 case atStart=>
  refine⟨[],_,_,HRG.out,⟨HG0.out.os,HG0.out.tape,HG0.out.output,HG0.out.size,fun k hk=>HG0.out.block k hk (by simp)⟩,World.ownsRow_nil _ _ _ _,List.nodup_nil,fun k=>⟨fun q=>absurd q (by simp),fun q=> ?_⟩⟩
  obtain⟨⟨q1,_⟩,q2⟩:=q
  rw[HD1.out,q1] at q2
  cases q2
 case round=>
  obtain⟨ts,left,cnt,hrg,hbel,hown,hnd,hmem⟩:=hrel
  obtain⟨av,cv,rfl⟩:=own_slice hown
  have HRGr:=veil hrg
  have HB:=veil hbel
  have HO:=veil hown
  have HND:=veil hnd
  have HMEM:=veil hmem
  have hsz:=hbel.size
  have hrlt:=hrg.lt
  clear hrg hbel hown hnd hmem HRG HG0 HD
  go_wp2_with (first|(at_next;refine wpList_next_m _ rfl _ rfl mb w.heap.size s D left cnt rfl HRGr.out ?_ ?_))
  ·intro hc0 hl0
   have hmet: ∀k,k∈ts↔met fr to k:=fun k=>by rw[HMEM.out k];exact⟨fun q=>q.1,fun q=>⟨q,hl0 _⟩⟩
   have hlenS:=Nat.le_trans (met_len HI.out (to:=to) ts HND.out (fun k hk=>(hmet k).1 hk)) HI.out.len_le
   obtain⟨N,hN⟩: ∃N,ts.length=N:=⟨_,rfl⟩
   have HSORT:Hid (Calls Tryz.prog 141 #[.slice av N cv] wr fun e w'=>e= .returned (.tuple #[])∧ ∃D',(N=0∨ ∃r2,av=some ⟨r2,0,none⟩∧w.heap.size≤r2∧RowU w' r2 cv N D')∧(∀k,k∈lsD D' N↔met fr to k)∧(∀a c,a<c→c<N→D' a<D' c)∧Below w.heap.size w w'):=by
    have ho:=HO.out
    rw[hN] at ho
    rcases ho.2 with ⟨hnil,h0⟩|⟨r2,cap',cur',hv',_⟩
    ·cases hnil
     refine(sort_nil wr).mono ?_
     rintro e w' ⟨rfl,rfl⟩
     refine⟨rfl,fun _=>0,.inl rfl,fun k=> ?_,fun a c _ hc=>by omega,HB.out⟩
     rw[←hmet k,List.length_eq_zero_iff.1 hN]
     exact Iff.rfl
    ·cases hv'
     obtain⟨hrow,_,hge⟩:=rowU_of ho
     have hinj: ∀a c,a<N→c<N→ts.getD a 0=ts.getD c 0→a=c:=fun a c ha hc e=>by
      have hnd:=HND.out
      simp only[List.getD,List.getElem?_eq_getElem (show a<ts.length by omega),List.getElem?_eq_getElem (show c<ts.length by omega),Option.getD_some] at e
      have hp:=List.pairwise_iff_getElem.1 hnd
      rcases Nat.lt_trichotomy a c with q|q|q
      ·exact absurd e (hp a c _ _ q)
      ·exact q
      ·exact absurd e.symm (hp c a _ _ q)
     refine(hS wr r2 cv N (fun j=>ts.getD j 0) hrow (by omega) hinj).mono ?_
     rintro e w' ⟨rfl,D',hr',hm',hs',hf'⟩
     refine⟨rfl,D',.inr ⟨r2,rfl,hge,hr'⟩,fun k=> ?_,hs',?_⟩
     ·rw[mem_lsD,hm' k,←hmet k]
      constructor
      ·rintro⟨a,ha,rfl⟩
       simp only[List.getD,List.getElem?_eq_getElem (show a<ts.length by omega),Option.getD_some]
       exact List.getElem_mem _
      ·intro hk
       obtain⟨a,ha,e⟩:=List.mem_iff_getElem.1 hk
       exact⟨a,by omega,by simp[List.getD,List.getElem?_eq_getElem ha,e]⟩
     ·exact⟨hf'.os.trans HB.out.os,hf'.tape.trans HB.out.tape,hf'.output.trans HB.out.output,Nat.le_trans HB.out.size hf'.size,fun k hk=>(hf'.block k (by have:=HB.out.size;omega) (by omega)).trans (HB.out.block k hk)⟩
   have HNb:Hid (N≤n):=by show N≤n;omega
   rw[hN]
   clear HO HND HMEM HT1 HT2 hmet hlenS hc0 hl0 hN HRGr hS hrlt hsz
   clear e0 hz0 hz1 hz2 hii
   go_wp2_with (first
    |(go_at_call 141;refine(HSORT.out).mono ?_;rintro e w3 ⟨rfl,D',hrow,hmm,hss,hb3⟩;have HROW:=veil hrow;have HMM:=veil hmm;have HSS:=veil hss;have HB3:=veil hb3;clear hrow hmm hss hb3))
   have HSTART:Hid (Rep w3 b g n nw ct (.map (some mb)) (ffF to fr (lsD D' 0)) (ffL to fr (lsD D' 0)) A B E T∧(∃s',IsM w3 mb (frL fr (lsD D' 0)) s')):=by
    have hr3:=HR.out.below HB3.out
    have e1:ffF to fr (lsD D' 0)=fun _=>0:=by funext q;unfold ffF;exact if_neg (fun q=>by simp[lsD] at q)
    have e2:ffL to fr (lsD D' 0)=fun _=>0:=by funext q;unfold ffL;exact if_neg (fun q=>by simp[lsD] at q)
    have e3:frL fr (lsD D' 0)=fr:=by funext q;unfold frL;exact if_neg (fun q=>by simp[lsD] at q)
    rw[e1,e2,e3]
    subst hF0 hL0
    exact⟨hr3,s,HM0.out.block (HB3.out.block mb hmlt)⟩
   clear HR HM0 HB HSORT
   go_loopw [7,32] (fun v iv_ wr=> ∃j:Nat,j≤N∧iv_= .int .i64 (j:Int)∧Rep wr b g n nw ct (.map (some mb)) (ffF to fr (lsD D' j)) (ffL to fr (lsD D' j)) A B E T∧(∃s',IsM wr mb (frL fr (lsD D' j)) s')∧Fr (fun k=>k=b∨k=mb) w3 wr∧wr.ownsRow w3.heap.size 3 1 v (dueL to nw S (lsD D' j)).length (iv (spots (dueL to nw S (lsD D' j))))) (fun _ i _=>N-(intOf i).toNat)
   case atStart=>exact⟨0,by omega,rfl,HSTART.out.1,HSTART.out.2,Fr.refl _ _,World.ownsRow_nil _ _ _ _⟩
   case round=>
    obtain⟨j,hj,rfl,hrep,⟨s2,hm2⟩,hfr,hown⟩:=hrel
    obtain⟨av2,cv2,rfl⟩:=own_slice hown
    clear HSTART
    have hbb2:=hrep.lt_b
    have hsz3:=HB3.out.size
    have hszr:=hfr.size
    by_cases hjN:j<N
    ·obtain⟨t,ht'⟩: ∃t,D' j=t:=⟨_,rfl⟩
     have hmt:=(HMM.out t).1 (mem_lsD.2 ⟨j,hjN,ht'⟩)
     have htn:t ∉ lsD D' j:=fun q=>by
      obtain⟨a,ha,e⟩:=mem_lsD.1 q
      have:=HSS.out a j ha hjN
      omega
     obtain⟨k',ek,hk'⟩:=HI.out.out _ hmt.1
     obtain rfl:t=k':=by omega
     have hle64:=hmt.2
     obtain⟨f,l,hfl,hgne,hLst⟩: ∃f l,fr (t:Int)=some (f,l)∧grp nw S t≠[]∧Lst A B f l (spots (grp nw S t)):=by
      rcases HI.out.far t hk' with ⟨e,_⟩|q
      ·have:=hmt.1;rw[e] at this;cases this
      ·exact q
     have ht64:t<18446744073709551616:=by
      obtain⟨y,hy⟩:=List.exists_mem_of_ne_nil _ hgne
      obtain⟨h1,h2⟩:=mem_grp.1 hy
      have h3:=HI.out.tm y h1
      have h4:=HI.out.hw
      unfold ky at h2
      omega
     have hglen:(grp nw S t).length≤1024:=by
      have h1:(grp nw S t).length≤S.length:=List.length_filter_le _ _
      have h2:=HI.out.len_le
      omega
     have HId:=veil fun W (hW:Rep W b g n nw ct (.map (some mb)) (ffF to fr (lsD D' j)) (ffL to fr (lsD D' j)) A B E T)=>by
      have q:=ids_ok hW hLst (fun p hp=>by
       obtain⟨y,hy,rfl⟩:=mem_spots.1 hp
       have:=HI.out.lt y (mem_grp.1 hy).1
       omega) (spots_nd (nd_sub HI.out.nd)) hn (by rw[spots_len];exact hglen)
      rwa [spots_len] at q
     have hdl:(dueL to nw S (lsD D' j)).length≤1024:=by
      have h1:=dueL_len (nw:=nw) (to:=to) HI.out.srt (lsD_srt HSS.out hj)
      have h2:=HI.out.len_le
      omega
     obtain⟨r2,rfl,hr2ge,hr2⟩:=HROW.out.resolve_left (by omega)
     have hr2lt:=hr2.lt
     have hrj:=(hr2.kept (W':=wr) (hfr.block r2 hr2lt (by omega))).cell j hjN
     rw[ht'] at hrj
     have hfat:frL fr (lsD D' j) (t:Int)=some (f,l):=by rw[frL_at htn];exact hfl
     have htm:=hrep.tm
     have hwf:=u64wf t ht64
     have hNb:=HNb.out
     have hjN':(j:Int)<(N:Int):=by omega
     have HRep:=veil hrep
     have HM2:=veil hm2
     have HFr:=veil hfr
     have HO:=veil hown
     have hEQ:lsD D' (j+1)=lsD D' j++[t]:=by rw[lsD_succ,ht']
     by_cases htt:t≤to
     ·have htt':(t:Int)≤(to:Int):=by omega
      have hlk:=hm2.look (t:Int) hwf
      rw[hfat] at hlk
      have hlk':(Instr.lookup 171 (.map (some mb)) (.int .u64 (t:Int)) false).run Tryz.prog wr= .ok (.agg #[.int .i64 (f:Int),.int .i64 (l:Int)]) wr:=hlk
      have HX1:Hid (ffF to fr (lsD D' (j+1))=ffF to fr (lsD D' j)∧ffL to fr (lsD D' (j+1))=ffL to fr (lsD D' j)∧frL fr (lsD D' (j+1))=setF (frL fr (lsD D' j)) (t:Int) none∧dueL to nw S (lsD D' (j+1))=dueL to nw S (lsD D' j)++grp nw S t):=by
       show _∧_
       rw[hEQ]
       exact⟨ffF_low htt,ffL_low htt,frL_more,dueL_low htt⟩
      generalize dueL to nw S (lsD D' j)=U at*
      generalize grp nw S t=G at*
      clear hmt htn ek hk' hfl hgne hLst hrep hm2 hfr hown hlk hEQ hfat ht' HMM HSS HROW HI HNb
      go_wp2_with (first
       |(go_at_call 140;refine(HId.out _ HRep.out).mono ?_;rintro e w5 ⟨⟨v5,rfl,ho5⟩,hb5⟩;obtain⟨a5,c5,rfl⟩:=own_slice ho5;have HO5:=veil ho5;have HV5:=veil (own_below HO.out hb5);have HB5:=veil hb5;have hs5:=hb5.size;clear ho5 hb5)
       |(at_builtin;refine wpList_append_rows _ rfl _ _ rfl w3.heap.size _ _ _ _ _ _ _ rfl HV5.out rfl HO5.out (iv_one _) (by omega) (by omega) ?_;intro v' w6 hown' hgrow;obtain⟨a6,c6,rfl⟩:=own_slice hown';have hf6:Fr (fun k=>w3.heap.size≤k) w5 w6:=⟨hgrow.os,hgrow.tape,hgrow.output,hgrow.size,fun k hk hn=>hgrow.block k hk (fun e=>hn (own_ge HO.out e.symm).1)⟩;have hf7:=(Fr.of_below' HB5.out).trans hf6;have HO6:=veil hown';have HF7:=veil hf7;have hr6:=(HRep.out.below HB5.out).kept (hf6.block b (by omega) (by omega)) (hf6.block g (by omega) (by omega));have HR6:=veil hr6;have HM6:=veil ((HM2.out.block (HB5.out.block mb (by omega))).block (hf6.block mb (by omega) (by omega)));have htm6:=hr6.tm;have hs6:=hgrow.size;clear hown' hgrow hf6 hf7 hr6)
       |(at_delete;refine wpList_delete_m rfl _ _ rfl (by exact HM6.out) (t:Int) hwf rfl rfl ?_;intro w7 hm7 hg7;have HM7:=veil hm7;have HG7:=veil hg7;clear hm7 hg7))
      go_roundw
      case rel=>
       obtain⟨x1,x2,x3,x4⟩:=HX1.out
       have hg7:=HG7.out
       refine⟨j+1,by omega,by go_num,?_,?_,?_,?_⟩
       ·rw[x1,x2]
        exact HR6.out.kept (hg7.block b HR6.out.lt_b (fun e=>hbm (by injection e))) (hg7.block g HR6.out.lt_g (fun e=>hgm (by injection e)))
       ·rw[x3];exact⟨_,HM7.out⟩
       ·refine⟨hg7.os.trans (HF7.out.os.trans HFr.out.os),hg7.tape.trans (HF7.out.tape.trans HFr.out.tape),hg7.output.trans (HF7.out.output.trans HFr.out.output),by have:=hg7.size;omega,fun k hk hne=> ?_⟩
        rw[hg7.block k (by omega) (fun e=>hne (.inr (by injection e))),HF7.out.block k (by omega) (by omega)]
        exact HFr.out.block k hk hne
       ·rw[x4,spots_append,iv_append,List.length_append]
        exact own_kept HO6.out (fun k hk=>hg7.block k (own_ge HO6.out hk).2 (fun e=>by have:=(own_ge HO6.out hk).1;injection e with e;omega))
      case measure=>simp[intOf];omega
     ·have htt': ¬(t:Int)≤(to:Int):=by omega
      have hteq:t/64=to/64:=by omega
      have hlk:=(hm2.block (w':=wr.drew) rfl).look (t:Int) hwf
      rw[hfat] at hlk
      have hlk':(Instr.lookup 171 (.map (some mb)) (.int .u64 (t:Int)) false).run Tryz.prog wr.drew= .ok (.agg #[.int .i64 (f:Int),.int .i64 (l:Int)]) wr.drew:=hlk
      have HX1:Hid (ffF to fr (lsD D' (j+1))=upd (ffF to fr (lsD D' j)) (t%64) f∧ffL to fr (lsD D' (j+1))=upd (ffL to fr (lsD D' j)) (t%64) l∧frL fr (lsD D' (j+1))=setF (frL fr (lsD D' j)) (t:Int) none∧dueL to nw S (lsD D' (j+1))=dueL to nw S (lsD D' j)):=by
       show _∧_
       rw[hEQ]
       have q1:=ffF_high (fr:=fr) (ls:=lsD D' j) (show to<t by omega) hteq
       have q2:=ffL_high (fr:=fr) (ls:=lsD D' j) (show to<t by omega) hteq
       rw[hfl] at q1 q2
       exact⟨q1,q2,frL_more,dueL_high (by omega)⟩
      have hq64:t%64<64:=Nat.mod_lt _ (by decide)
      have c1:=hrep.sf (t%64) hq64
      have c2:=hrep.sl (t%64) hq64
      have fb:=hrep.fb
      have r1:(0:Int)≤((t%64:Nat):Int):=by omega
      have r2':((t%64:Nat):Int)<64:=by omega
      have r3:IntKind.u64.wrap ((t:Int)%64)=((t%64:Nat):Int):=by rw[IntKind.wrap_u64];omega
      obtain⟨W4,hW4⟩: ∃W4,W4=(wr.setCell ⟨b,1+t%64*2,none⟩ (.int .i64 (f:Int))).setCell ⟨b,1+t%64*2+1,none⟩ (.int .i64 (l:Int)):=⟨_,rfl⟩
      have HR4:Hid (Rep W4 b g n nw ct (.map (some mb)) (upd (ffF to fr (lsD D' j)) (t%64) f) (upd (ffL to fr (lsD D' j)) (t%64) l) A B E T):=by rw[hW4];exact(hrep.setF (t%64) hq64 f).setL (t%64) hq64 l
      have HF4:Hid (Fr (fun k=>k=b∨k=mb) w3 W4):=by rw[hW4];exact(hfr.setCell (a:=⟨b,1+t%64*2,none⟩) (.inl rfl) _).setCell (a:=⟨b,1+t%64*2+1,none⟩) (.inl rfl) _
      have hK4: ∀k,k≠b→W4.heap[k]? =wr.heap[k]? :=fun k hk=>by rw[hW4,Below.heap_setCell _ _ _ _ hk,Below.heap_setCell _ _ _ _ hk]
      have HM4:=veil<|hm2.block (hK4 mb (fun e=>hbm e.symm))
      have HO4:=veil (own_kept (w':=W4) hown (fun k hk=>hK4 k (by have:=(own_ge hown hk).1;omega)))
      have HW4:=veil hW4
      generalize dueL to nw S (lsD D' j)=U at*
      clear hmt htn ek hk' hfl hgne hLst hrep hm2 hfr hown hlk hEQ hfat ht' HMM HSS HROW HI HNb hW4 hK4 HO HFr HM2 HRep HId
      go_upto_region 14 with fail
      go_region
      go_upto_region 15 with fail
      rw[←HW4.out]
      have htm4:=HR4.out.tm
      clear HW4 c1 c2 fb hlk' htm hrj
      go_wp2_with (first
       |(at_delete;refine wpList_delete_m rfl _ _ rfl (by exact HM4.out.block (w':=W4.drew) rfl) (t:Int) hwf rfl rfl ?_;intro w7 hm7 hg7;have HM7:=veil hm7;have HG7:=veil hg7;clear hm7 hg7))
      go_roundw
      case rel=>
       obtain⟨x1,x2,x3,x4⟩:=HX1.out
       have hg7:=HG7.out
       refine⟨j+1,by omega,by go_num,?_,?_,?_,?_⟩
       ·rw[x1,x2]
        exact HR4.out.kept (hg7.block b HR4.out.lt_b (fun e=>hbm (by injection e))) (hg7.block g HR4.out.lt_g (fun e=>hgm (by injection e)))
       ·rw[x3];exact⟨_,HM7.out⟩
       ·refine⟨hg7.os.trans HF4.out.os,hg7.tape.trans HF4.out.tape,hg7.output.trans HF4.out.output,Nat.le_trans HF4.out.size hg7.size,fun k hk hne=> ?_⟩
        have:=HF4.out.size
        exact(hg7.block k (show k<W4.heap.size by omega) (fun e=>hne (.inr (by injection e)))).trans (HF4.out.block k hk hne)
       ·rw[x4]
        exact own_kept HO4.out (fun k hk=>hg7.block k (own_ge HO4.out hk).2 (fun e=>by have:=(own_ge HO4.out hk).1;injection e with e;omega))
      case measure=>simp[intOf];omega
    ·obtain rfl:j=N:=by omega
     have hjN': ¬(j:Int)<(j:Int):=by omega
     have HE:Hid (Rep wr b g n nw ct (.map (some mb)) (ffF to fr (lsD D' j)) (ffL to fr (lsD D' j)) A B E T∧(∃s',IsM wr mb (frL fr (lsD D' j)) s')∧Fr (O3 b g mb) w wr):=⟨hrep,⟨s2,hm2⟩,(Fr.of_below' HB3.out).trans (hfr.wide (fun k _ q=>q.elim .inl (fun q=> .inr (.inr q))))⟩
     have HP:=veil (lsD_srt HSS.out lzr)
     have HO:=veil (own_base hown hsz3)
     clear hrep hm2 hfr hown HSS HROW HI HNb
     go_wp2
     go_ret
     exact⟨lsD D' j,HP.out,HMM.out,⟨_,rfl,HO.out⟩,HE.out⟩
  ·intro k f l w1 cnt1 hk64 hlk hhas hrg1 hlt1 hg1 hs1 hen
   have hb1:=HB.out.grown hg1 HB.out.size (fun j hj=>by injection hj with hj;omega)
   have hisS:(fr (k:Int)).isSome=true:=by rw[←HD1.out];exact hhas
   have hnk:k ∉ ts:=fun q=>by
    have:=((HMEM.out k).1 q).2
    rw[hlk] at this
    cases this
   have hvb: ∀j,(Value.slice av ts.length cv).ownBlock=some j→w.heap.size≤j∧j≠w.heap.size:=fun j hj=>by
    refine⟨(own_ge HO.out hj).1,fun e=> ?_⟩
    rcases HO.out.2 with ⟨hnil,_⟩|⟨g',cap',cur',hv',_,hg',_⟩
    ·rw[hnil] at hj;cases hj
    ·rw[hv'] at hj
     simp[Value.ownBlock] at hj
     subst hj
     obtain⟨es,clock,since,seen,c0,_,_,_,_,hr,_⟩:=HRGr.out
     rw[←e,hg'] at hr
     cases hr
   have HO1:=veil (own_kept (w':=w1) HO.out (fun j hj=>hg1.block j (own_ge HO.out hj).2 (fun e=>(hvb j hj).2 (by injection e))))
   have HB1:=veil hb1
   have HVB:=veil hvb
   have HRG1:=veil hrg1
   have HLT:=veil hlt1
   have HTK:=veil (HT1.out k hk64)
   have HIS:=veil hisS
   have HNK:=veil hnk
   have hs1':=HB1.out.size
   have hlen:ts.length≤1024:=by
    have h1:=met_len HI.out (to:=to) ts HND.out (fun k hk=>((HMEM.out k).1 hk).1)
    have h2:=HI.out.len_le
    omega
   clear hb1 hisS hnk hvb hrg1 hlt1 hg1 hlk hhas hs1
   by_cases hle:k/64≤to/64
   ·have hle':((k/64:Nat):Int)≤((to/64:Nat):Int):=by omega
    generalize ((k/64:Nat):Int)=q1 at*
    generalize ((to/64:Nat):Int)=q2 at*
    go_wp2_with (first
     |(go_at_call 86;(have hh:=HMK.out;clear hh);refine cS (HT2.out _) ?_)
     |(go_at_call 86;refine cS (HTK.out _) ?_;have HMK:=veil trivial)
     |(at_builtin;refine wpList_append_own _ rfl _ _ 26 rfl w.heap.size 25 i0 (.int .u64 0) 1 8 Tryz.underlying26 hii hz0 hz1 hz2 rfl (by decide) (.slice av ts.length cv) ts.length (uv ts) rfl (by exact HO1.out.alloc _) ⟨w1.heap.size,0,none⟩ 1 1 [.int .u64 (k:Int)] rfl rfl (cell_one _ _ _) (by simp[Value.oneCell']) (by unfold maxLen;omega) (by omega) (by simp;omega) ?_;intro v' w2 hown' hgrow _;have hb2:=(HB1.out.alloc HB1.out.size _).grown hgrow (by simp;omega) (fun k hk=>(HVB.out k hk).1);have hr2:=(HRG1.out.alloc (.cells #[.int .u64 (k:Int)] 25)).kept hgrow (fun e=>by have:=(HVB.out mb e.symm).1;omega) (fun e=>(HVB.out _ e.symm).2 rfl);obtain⟨av',cv',rfl⟩:=own_slice hown';have HO2:=veil hown';have HB2:=veil hb2;have HR2:=veil hr2;clear hown' hgrow hb2 hr2))
    go_roundw
    case rel=>
     refine⟨ts++[k],_,cnt1,HR2.out,HB2.out,by rw[List.length_append];unfold uv;rw[List.map_append];exact HO2.out,?_,?_⟩
     ·rw[List.nodup_append]
      exact⟨HND.out,by simp,fun a ha c hc e=>HNK.out (by simp at hc;rw[←hc,←e];exact ha)⟩
     ·intro j
      rw[List.mem_append,HMEM.out j]
      simp only[List.mem_singleton,same_u64,Bool.and_eq_false_iff,Bool.not_eq_false',decide_eq_true_eq]
      constructor
      ·rintro(⟨q1,q2⟩|rfl)
       ·exact⟨q1,.inl q2⟩
       ·exact⟨⟨HIS.out,hle⟩,.inr rfl⟩
      ·rintro⟨q1,q2|q2⟩
       ·exact .inl ⟨q1,q2⟩
       ·exact .inr (by omega)
    case measure=>rw[HR2.out.left_eq,HRGr.out.left_eq];exact HLT.out
   ·have hle': ¬((k/64:Nat):Int)≤((to/64:Nat):Int):=by omega
    generalize ((k/64:Nat):Int)=q1 at*
    generalize ((to/64:Nat):Int)=q2 at*
    go_wp2_with (first
     |(go_at_call 86;(have hh:=HMK.out;clear hh);refine cS (HT2.out _) ?_)
     |(go_at_call 86;refine cS (HTK.out _) ?_;have HMK:=veil trivial))
    go_roundw
    case rel=>
     refine⟨ts,_,cnt1,HRG1.out,HB1.out,HO1.out,HND.out,?_⟩
     intro j
     rw[HMEM.out j]
     simp only[same_u64,Bool.and_eq_false_iff,Bool.not_eq_false',decide_eq_true_eq]
     constructor
     ·rintro⟨q1,q2⟩
      exact⟨q1,.inl q2⟩
     ·rintro⟨q1,q2|q2⟩
      ·exact⟨q1,q2⟩
      ·obtain rfl:j=k:=by omega
       exact absurd q1.2 hle
    case measure=>rw[HRG1.out.left_eq,HRGr.out.left_eq];exact HLT.out
end
def zAt {α:Type} (f:Nat→α) (z:α) (ps:List Nat):Nat→α:=fun p=>if p∈ps then z else f p
theorem zAt_nil {α:Type} (f:Nat→α) (z:α):zAt f z []=f:=by rfl
theorem zAt_more {α:Type} (f:Nat→α) (z:α) (ps:List Nat) (q:Nat):zAt f z (ps++[q])=upd (zAt f z ps) q z:=by
 funext p
 show(if p∈ps++[q] then z else f p)=if p=q then z else if p∈ps then z else f p
 grind
section
variable {w:World} {b g mb n nw ct s:Nat} {F L A B E F' L':Nat→Nat} {T:Nat→Bool} {fr:Int→Option (Nat×Nat)} {S:List It}
theorem due_near (hs:Srt S) {to:Nat} (hle:nw≤to) (h:to/64=nw/64):upTo nw S (nw/64*64) (to%64+1)=due to S:=by
 rw[upTo_eq hs]
 unfold due
 congr 1
 funext x
 rw[Bool.eq_iff_iff]
 simp only[decide_eq_true_eq,Bool.and_eq_true]
 have hk:ky nw x=x.t∨ky nw x=nw:=by unfold ky;omega
 have hk1:x.t≤ky nw x∧nw≤ky nw x:=by unfold ky;omega
 omega
theorem due_far (hi:Inv n nw ct F L fr A B E T S) {to:Nat} (hle:nw≤to) (h:nw/64<to/64) {ls:List Nat} (hp:ls.Pairwise (· < ·)) (hm: ∀k,k∈ls↔met fr to k):upTo nw S (nw/64*64) 64++dueL to nw S ls=due to S:=by
 have hs:=hi.srt
 rw[upTo_eq hs]
 unfold dueL
 rw[many_eq hs nw _ (hp.filter _)]
 have hd:=split_down (p:=fun x=>decide (ky nw x<nw/64*64+64)) (hs.filter (fun x=>decide (x.t≤to))) (fun a c hac hc=>decide_eq_true (by have hc:=of_decide_eq_true hc;unfold ky at*;omega))
 have e:due to S=S.filter (fun x=>decide (x.t≤to)):=rfl
 rw[e,←hd,List.filter_filter,List.filter_filter]
 congr 1
 ·congr 1
  funext x
  rw[Bool.eq_iff_iff]
  simp only[decide_eq_true_eq,Bool.and_eq_true]
  have hk:ky nw x=x.t∨ky nw x=nw:=by unfold ky;omega
  have hk1:x.t≤ky nw x∧nw≤ky nw x:=by unfold ky;omega
  omega
 ·apply List.filter_congr
  intro x hx
  rw[Bool.eq_iff_iff]
  simp only[decide_eq_true_eq,List.mem_filter,Bool.and_eq_true,Bool.not_eq_true',decide_eq_false_iff_not]
  constructor
  ·rintro⟨q1,q2⟩
   obtain⟨k,e1,e2⟩:=hi.out _ ((hm _).1 q1).1
   unfold ky at*
   omega
  ·rintro⟨q1,q2⟩
   have h1:nw/64<ky nw x/64:=by omega
   have h2:ky nw x≤to:=by unfold ky;omega
   refine⟨(hm _).2 ⟨?_,by omega⟩,h2⟩
   rcases hi.far (ky nw x) h1 with ⟨_,e2⟩|⟨f,l,e1,_⟩
   ·have:x∈grp nw S (ky nw x):=mem_grp.2 ⟨hx,rfl⟩
    grind
   grind
structure Swept (n nw to:Nat) (F L:Nat→Nat) (fr:Int→Option (Nat×Nat)) (F' L':Nat→Nat) (fr':Int→Option (Nat×Nat)):Prop where
 hs: ∀s,s<64→if to/64*64+s≤to then F' s=0∧L' s=0 else F' s=(lst nw F L fr (to/64*64+s)).1∧L' s=(lst nw F L fr (to/64*64+s)).2
 hf: ∀k:Nat,to/64<k/64→fr' (k:Int)=fr (k:Int)
 ho: ∀i:Int,(fr' i).isSome=true→ ∃k:Nat,i=(k:Int)∧to/64<k/64
theorem swept_near (hi:Inv n nw ct F L fr A B E T S) {to:Nat} (h:to/64=nw/64):Swept n nw to F L fr (cut0 (to%64+1) F) (cut0 (to%64+1) L) fr:=by
 refine⟨fun s hs=> ?_,fun k hk=>rfl,fun i hi'=> ?_⟩
 ·unfold cut0 lst
  by_cases e:to/64*64+s≤to
  ·have h1:s<to%64+1:=by omega
   rw[if_pos e,if_pos h1,if_pos h1]
   omega
  ·have h1: ¬s<to%64+1:=by omega
   have h2:(to/64*64+s)/64=nw/64:=by omega
   rw[if_neg e,if_neg h1,if_neg h1,if_pos h2,show(to/64*64+s)%64=s by omega]
   omega
 ·obtain⟨k,e,hk⟩:=hi.out i hi'
  grind
theorem swept_far (hi:Inv n nw ct F L fr A B E T S) {to:Nat} (h:nw/64<to/64) {ls:List Nat} (hm: ∀k,k∈ls↔met fr to k):Swept n nw to F L fr (ffF to fr ls) (ffL to fr ls) (frL fr ls):=by
 refine⟨fun s hs=> ?_,fun k hk=> ?_,fun i hi'=> ?_⟩
 ·by_cases e:to/64*64+s≤to
  ·rw[if_pos e]
   grind[Wh.ffF,Wh.ffL]
  ·rw[if_neg e]
   unfold ffF ffL lst
   rw[if_neg (c:=(to/64*64+s)/64=nw/64) (by omega)]
   by_cases q:(to/64*64+s)∈ls
   ·grind
   ·rw[if_neg (by grind),if_neg (by grind)]
    have:fr ((to/64*64+s:Nat):Int)=none:=by
     cases hx:fr ((to/64*64+s:Nat):Int) with
     |none=>rfl
     |some z=>exact absurd ((hm _).2 ⟨by grind,by omega⟩) q
    grind
 ·exact frL_at (fun q=>by have:=((hm k).1 q).2;omega)
 ·unfold frL at hi'
  split at hi'
  ·cases hi'
  ·rename_i q
   obtain⟨k,e,hk⟩:=hi.out i hi'
   refine⟨k,e,?_⟩
   apply Classical.byContradiction
   intro hc
   exact q (List.mem_map.2 ⟨k,(hm k).2 ⟨by grind,by omega⟩,e.symm⟩)
theorem Inv.advance (hi:Inv n nw ct F L fr A B E T S) {fr':Int→Option (Nat×Nat)} {to:Nat} (hto:nw≤to) (ht:to<18446744073709551616) (h:Swept n nw to F L fr F' L' fr'):
  Inv n to (late to S).length F' L' fr' (zAt A 0 (spots (due to S))) (zAt B 0 (spots (due to S))) (zAt E 0 (spots (due to S))) (zAt T false (spots (due to S))) (late to S):=by
 have hno: ∀y∈S,to<y.t→y.i+1 ∉ spots (due to S):=fun y hy hy2 q=>by
  obtain⟨z,hz,e⟩:=mem_spots.1 q
  obtain⟨h1,h2⟩:=mem_due.1 hz
  have:=nd_eq hi.nd h1 hy (by omega)
  grind
 refine hi.adv to hto ht h.hs h.hf h.ho (fun y hy hy2=> ?_) (fun p hp hq=> ?_)
 ·grind[Wh.zAt]
 ·unfold zAt
  by_cases e:p∈spots (due to S)
  ·grind
  ·rw[if_neg e,if_neg e]
   refine hi.zer p hp (fun x hx e'=> ?_)
   by_cases hx2:x.t≤to
   ·exact e (mem_spots.2 ⟨x,mem_due.2 ⟨hx,hx2⟩,e'⟩)
   grind
end
section
variable {w:World} {b g mb n nw:Nat} {S:List It}
theorem cell_of_own {w:World} {base N:Nat} {av:Option Addr} {cv:Nat} {xs:List Nat} (h:w.ownsRow base 3 1 (.slice av N cv) N (iv xs)) (j:Nat) (hj:j<N): ∃r,av=some (vA0 r)∧base≤r∧r<w.heap.size∧w.cell? (vAt r j)=some (vI6 ((xs.getD j 0:Nat)-1:Int)):=by
 have hlen:xs.length=N:=by have:=h.1;rw[iv_len] at this;omega
 rcases h.2 with ⟨e,h0⟩|⟨r,cap,cur,e,hb,hg,hn,hc,hs,ht⟩
 ·omega
 ·cases e
  refine⟨r,rfl,hb,(Array.getElem?_eq_some_iff.1 hg).1,?_⟩
  have this:(cur.toList.take (N*1))[j]? =(iv xs)[j]? :=by rw[ht]
  rw[List.getElem?_take_of_lt (by omega),Array.getElem?_toList] at this
  unfold World.cell?
  grind[Wh.iv]
theorem advance_near (h:IsW w b g mb n nw S) (to0:Nat) (ht0:to0<18446744073709551616) (htn:max to0 nw/64=nw/64):
  vCa 45 #[vPt b,vU6 (to0:Int)] w fun e w'=>(∃v,e= .returned v∧w'.ownsRow w.heap.size 3 1 v (due (max to0 nw) S).length (iv (spots (due (max to0 nw) S))))∧IsW w' b g mb n (max to0 nw) (late (max to0 nw) S)∧Fr (O3 b g mb) w w':=by
 obtain⟨ct,F,L,fr,A,B,E,T,s,hr,hm,hi,hbm,hgm,hn⟩:=h
 obtain⟨to,hto⟩: ∃to,max to0 nw=to:=⟨_,rfl⟩
 rw[hto] at htn⊢
 have hle:nw≤to:=by omega
 have ht:to<18446744073709551616:=by have:=hi.hw;omega
 have hmax:max (to0:Int) (nw:Int)=(to:Int):=by omega
 have e0:=hr.tn
 have hbb:=hr.lt_b
 have hgg:=hr.lt_g
 have hmm:=hm.lt
 have hdl:(due to S).length≤1024:=by
  have h1:(due to S).length≤S.length:=List.length_filter_le _ _
  have h2:=hi.len_le
  omega
 have hdn: ∀p∈spots (due to S),p≤n:=fun p hp=>by
  obtain⟨y,hy,rfl⟩:=mem_spots.1 hp
  have:=hi.lt y (mem_due.1 hy).1
  omega
 have hcl:ct=(due to S).length+(late to S).length:=by rw[hi.hc,←List.length_append,due_late hi.srt]
 have hmx:(if to0<nw then(nw:Int) else(to0:Int))=(to:Int):=by omega
 have HT1:=veil (turn_ok to ht)
 have HT2:=veil (turn_ok nw hi.hw)
 have HD0:Hid (∀p∈spots (due to S),p≠0):=spots_ne0
 have HLN:Hid (ct≤1024):=by show ct≤1024;rw[hi.hc];have:=hi.len_le;omega
 have HDN:=veil hdn
 have HCL:=veil hcl
 clear hdn hcl hmax
 have hdu:=due_near hi.srt hle htn
 have hsw:=sweep_ok hr hi hn to (to%64+1) ht (by grind)
 rw[hdu] at hsw
 have HSW:=veil hsw
 have hadv:=hi.advance hle ht (swept_near hi htn)
 obtain⟨F',hF'⟩: ∃F',cut0 (to%64+1) F=F':=⟨_,rfl⟩
 obtain⟨L',hL'⟩: ∃L',cut0 (to%64+1) L=L':=⟨_,rfl⟩
 obtain⟨fr',hfr'⟩: ∃fr',fr=fr':=⟨_,rfl⟩
 rw[hF',hL'] at HSW hadv
 have HADV:Hid (Inv n to (late to S).length F' L' fr' (zAt A 0 (spots (due to S))) (zAt B 0 (spots (due to S))) (zAt E 0 (spots (due to S))) (zAt T false (spots (due to S))) (late to S)):=by rw[←hfr'];exact hadv
 have HM:Hid (IsM w mb fr' s):=by rw[←hfr'];exact hm
 have hq:((nw/64:Nat):Int)=((to/64:Nat):Int):=by omega
 rw[hq] at HT2
 clear hr hm hi hdu hsw hadv hq htn hto hF' hL' hfr'
 generalize ((to/64:Nat):Int)=q1 at*
 refine ge ?_
 go_upto_region 4 with fail
 clear hmx
 go_wp2_with (first
  |(go_at_call 85;refine(HSW.out).mono ?_;rintro e w1 ⟨⟨v1,rfl,ho1⟩,hr1,hon1⟩;obtain⟨av,cv,rfl⟩:=own_slice ho1;have e1:=hr1.tn;have HOz:=veil ho1;have HRz:=veil hr1;have HMz:=veil (Exists.intro s (HM.out.block (hon1.block mb hmm (fun e=>hbm e.symm) (fun e=>hgm e.symm))));have HFz:=veil (Fr.of_onlyW (S:=O3 b g mb) hon1 (.inl rfl) (.inr (.inl rfl)));clear ho1 hr1 hon1))
 go_region_held3 (fun w'=>w'.cell? (vA0 b)=some (vU6 (nw:Int))) (go_keep)
  (first
   |(go_at_call 86;first
     |(refine(HT1.out _).mono ?_;rintro e wx ⟨rfl,hw⟩;subst hw)
     |(refine cS (HT2.out _) ?_)))
 go_wp2
 replace HOz:Hid (w1.drew.ownsRow w.heap.size 3 1 (.slice av (due to S).length cv) (due to S).length (iv (spots (due to S)))):=own_kept HOz.out (fun _ _=>rfl)
 replace HRz:=veil HRz.out.drew
 replace HMz:Hid (∃s',IsM w1.drew mb fr' s'):=by obtain⟨s',q⟩:=HMz.out;exact⟨s',q.block rfl⟩
 replace HFz:=veil HFz.out.drew
 clear e1 e0 HSW HT1 HT2 HM
 obtain⟨ps,hps⟩: ∃ps,spots (due to S)=ps:=⟨_,rfl⟩
 have hpl:ps.length=(due to S).length:=by rw[←hps,spots_len]
 obtain⟨N,hN⟩: ∃N,(due to S).length=N:=⟨_,rfl⟩
 rw[hps] at HOz HADV HDN HD0
 have HPS:=veil hps
 rw[hN] at HOz HCL hdl hpl⊢
 have HPL:=veil hpl
 have HNN:=veil hN
 clear hpl hps hN
 obtain⟨c',hc'⟩: ∃c',(late to S).length=c':=⟨_,rfl⟩
 rw[hc'] at HADV HCL
 clear hc'
 go_loopw [34] (fun iv_ wr=> ∃j:Nat,j≤N∧iv_=vI6 (j:Int)∧Rep wr b g n nw ct (.map (some mb)) F' L' (zAt A 0 (ps.take j)) (zAt B 0 (ps.take j)) (zAt E 0 (ps.take j)) (zAt T false (ps.take j))∧(∃s',IsM wr mb fr' s')∧Fr (O3 b g mb) w wr∧wr.ownsRow w.heap.size 3 1 (.slice av N cv) N (iv ps)) (fun i _=>N-(intOf i).toNat)
 case atStart=>exact⟨0,by omega,rfl,by rw[List.take_zero,zAt_nil,zAt_nil,zAt_nil,zAt_nil];exact HRz.out,HMz.out,HFz.out,HOz.out⟩
 case round=>
  obtain⟨j,hj,rfl,hrep,⟨s2,hm2⟩,hfr,hown⟩:=hrel
  clear HRz HMz HFz HOz
  by_cases hjN:j<N
  ·obtain⟨r,rfl,hrb,hrl,hcell⟩:=cell_of_own hown j hjN
   have hjp:j<ps.length:=by have:=HPL.out;omega
   have hpj:ps.getD j 0=ps[j]:=by grind
   have hmem:ps[j]∈ps:=List.getElem_mem _
   have hpn:=HDN.out _ hmem
   obtain⟨q,hq⟩: ∃q,ps[j]=q+1:=⟨ps[j]-1,by have:=HD0.out _ hmem;omega⟩
   rw[hpj,hq] at hcell
   rw[hq] at hpn
   have hcell':wr.cell? (vAt r j)=some (vI6 (q:Int)):=by
    grind
   have htk:ps.take (j+1)=ps.take j++[q+1]:=by rw[List.take_succ_eq_append_getElem hjp,hq]
   have hnn:=HNN.out
   obtain⟨cp,en⟩:=hrep.en
   have n0:=hrep.ea (q+1) hpn;have n1:=hrep.eb (q+1) hpn;have n2:=hrep.ee (q+1) hpn;have n3:=hrep.et (q+1) hpn
   have fg:=hrep.fg
   have hjN':(j:Int)<(N:Int):=by omega
   have HREP:Hid (Rep ((((wr.setCell (vAt g ((q+1)*4)) (vI6 0)).setCell (vAt g ((q+1)*4+1)) (vI6 0)).setCell (vAt g ((q+1)*4+2)) (vU6 0)).setCell (vAt g ((q+1)*4+3)) (.bool false)) b g n nw ct (.map (some mb)) F' L' (zAt A 0 (ps.take (j+1))) (zAt B 0 (ps.take (j+1))) (zAt E 0 (ps.take (j+1))) (zAt T false (ps.take (j+1)))):=by
    rw[htk,zAt_more,zAt_more,zAt_more,zAt_more]
    exact(((hrep.setA (q+1) hpn 0).setB (q+1) hpn 0).setE (q+1) hpn 0).setT (q+1) hpn false
   have hK4: ∀k,k≠g→((((wr.setCell (vAt g ((q+1)*4)) (vI6 0)).setCell (vAt g ((q+1)*4+1)) (vI6 0)).setCell (vAt g ((q+1)*4+2)) (vU6 0)).setCell (vAt g ((q+1)*4+3)) (.bool false)).heap[k]? =wr.heap[k]? :=fun k hk=>by rw[Below.heap_setCell _ _ _ _ hk,Below.heap_setCell _ _ _ _ hk,Below.heap_setCell _ _ _ _ hk,Below.heap_setCell _ _ _ _ hk]
   have HMS:=veil (hm2.block (hK4 mb (fun e=>hgm e.symm)))
   have HFS:=veil ((((hfr.setCell (a:=(vAt g ((q+1)*4))) (.inr (.inl rfl)) (vI6 0)).setCell (a:=(vAt g ((q+1)*4+1))) (.inr (.inl rfl)) (vI6 0)).setCell (a:=(vAt g ((q+1)*4+2))) (.inr (.inl rfl)) (vU6 0)).setCell (a:=(vAt g ((q+1)*4+3))) (.inr (.inl rfl)) (.bool false))
   have HOS:=veil (own_kept hown (fun k hk=>hK4 k (by have:=(own_ge hown hk).1;omega)))
   have ql:q+1<n+1:=by omega
   have qb:q≤1024:=by omega
   clear hrep hm2 hfr hown hcell hjp hpj hmem hpn hq htk hK4 HCL HADV HPL HNN HDN HD0
   go_wp2
   go_roundw
   case rel=>exact⟨j+1,by omega,by go_num,HREP.out,⟨_,HMS.out⟩,HFS.out,HOS.out⟩
   case measure=>simp[intOf];omega
  ·obtain rfl:j=N:=by omega
   have hjN': ¬(j:Int)<(j:Int):=by omega
   have hct:=HCL.out
   have etc:=hrep.tc
   have etn:=hrep.tn
   have fb:=hrep.fb
   have hps:ps.take j=ps:=List.take_of_length_le (by have:=HPL.out;omega)
   rw[hps] at hrep
   have hcb:ct≤1024+1024:=by have:=HLN.out;omega
   have hwc:IntKind.i64.wrap ((ct:Int)-(j:Int))=(c':Int):=by rw[show((ct:Int)-(j:Int))=(c':Int) by omega];simp[IntKind.wrap,IntKind.bits,IntKind.signed];omega
   have hwc2:(ct:Int)-(j:Int)=(c':Int):=by omega
   have HREP:=veil<|(hrep.setN c').setW to
   have hK4: ∀k,k≠b→((wr.setCell (vAt b 131) (vI6 (c':Int))).setCell (vA0 b) (vU6 (to:Int))).heap[k]? =wr.heap[k]? :=fun k hk=>by rw[Below.heap_setCell _ _ _ _ hk,Below.heap_setCell _ _ _ _ hk]
   have HMS:=veil (hm2.block (hK4 mb (fun e=>hbm e.symm)))
   have HFS:=veil ((hfr.setCell (a:=(vAt b 131)) (.inl rfl) (vI6 (c':Int))).setCell (a:=(vA0 b)) (.inl rfl) (vU6 (to:Int)))
   have HOS:=veil (own_kept hown (fun k hk=>hK4 k (by have:=(own_ge hown hk).1;omega)))
   clear hrep hm2 hfr hown hps hK4 HCL HPL HDN HD0 hct
   go_wp2
   go_ret
   exact⟨⟨_,rfl,by rw[HNN.out,HPS.out];exact HOS.out⟩,⟨c',F',L',fr',_,_,_,_,s2,HREP.out,HMS.out,HADV.out,hbm,hgm,hn⟩,HFS.out⟩
theorem advance_ok (h:IsW w b g mb n nw S) (m:Nat) (hS:Sorts m) (hnm:n≤m) (to0:Nat) (ht0:to0<18446744073709551616):
  vCa 45 #[vPt b,vU6 (to0:Int)] w fun e w'=>(∃v,e= .returned v∧w'.ownsRow w.heap.size 3 1 v (due (max to0 nw) S).length (iv (spots (due (max to0 nw) S))))∧IsW w' b g mb n (max to0 nw) (late (max to0 nw) S)∧Fr (O3 b g mb) w w':=by
 by_cases htn0:max to0 nw/64=nw/64
 ·exact advance_near h to0 ht0 htn0
 obtain⟨ct,F,L,fr,A,B,E,T,s,hr,hm,hi,hbm,hgm,hn⟩:=h
 obtain⟨to,hto⟩: ∃to,max to0 nw=to:=⟨_,rfl⟩
 rw[hto] at htn0⊢
 have htn:=htn0
 clear htn0
 have hle:nw≤to:=by omega
 have ht:to<18446744073709551616:=by omega
 have hmax:max (to0:Int) (nw:Int)=(to:Int):=by omega
 have e0:=hr.tn
 have hbb:=hr.lt_b
 have hgg:=hr.lt_g
 have hmm:=hm.lt
 have hdl:(due to S).length≤1024:=by
  have h1:(due to S).length≤S.length:=List.length_filter_le _ _
  have h2:=hi.len_le
  omega
 have hdn: ∀p∈spots (due to S),p≤n:=fun p hp=>by
  obtain⟨y,hy,rfl⟩:=mem_spots.1 hp
  have:=hi.lt y (mem_due.1 hy).1
  omega
 have hcl:ct=(due to S).length+(late to S).length:=by rw[hi.hc,←List.length_append,due_late hi.srt]
 have hmx:(if to0<nw then(nw:Int) else(to0:Int))=(to:Int):=by omega
 have HT1:=veil (turn_ok to ht)
 have HT2:=veil (turn_ok nw hi.hw)
 have HD0:Hid (∀p∈spots (due to S),p≠0):=spots_ne0
 have HLN:Hid (ct≤1024):=by show ct≤1024;rw[hi.hc];have:=hi.len_le;omega
 have HDN:=veil hdn
 have HCL:=veil hcl
 clear hdn hcl hmax
 have htl:nw/64<to/64:=by omega
 have HSW:=veil (sweep_ok hr hi hn to 64 ht (by grind))
 have hz: ∀X:Nat→Nat,∀W,Rep W b g n nw ct (.map (some mb)) (cut0 64 F) (cut0 64 L) A B E T→Rep W b g n nw ct (.map (some mb)) (fun _=>0) (fun _=>0) A B E T:=fun _ W hW=>by
  refine⟨hW.bg,hW.en,hW.tn,hW.tm,hW.tc,fun x hx=> ?_,fun x hx=> ?_,hW.ea,hW.eb,hW.ee,hW.et,hW.fb,hW.fg⟩
  ·have:=hW.sf x hx;unfold cut0 at this;grind
  ·have:=hW.sl x hx;unfold cut0 at this;grind
 have HFE:Hid (∀W,Rep W b g n nw ct (.map (some mb)) (cut0 64 F) (cut0 64 L) A B E T→IsM W mb fr s→vCa 87 #[vPt b,vU6 (to:Int)] W fun e w'=> ∃ls:List Nat,Hid (upTo nw S (nw/64*64) 64++dueL to nw S ls=due to S∧Swept n nw to F L fr (ffF to fr ls) (ffL to fr ls) (frL fr ls))∧(∃v,e= .returned v∧w'.ownsRow W.heap.size 3 1 v (dueL to nw S ls).length (iv (spots (dueL to nw S ls))))∧
  Rep w' b g n nw ct (.map (some mb)) (ffF to fr ls) (ffL to fr ls) A B E T∧(∃s',IsM w' mb (frL fr ls) s')∧Fr (O3 b g mb) W w'):=fun W h1 h2=>by
  refine(fetch_ok (hz F W h1) rfl rfl h2 hi hbm hgm hn m hS hnm to ht htl).mono ?_
  rintro e w' ⟨ls,q1,q2,q3⟩
  exact⟨ls,⟨due_far hi hle htl q1 q2,swept_far hi htl q2⟩,q3⟩
 have HI:=veil hi
 have HM:=veil hm
 have hneb:(((to/64:Nat):Int) !=((nw/64:Nat):Int))=true:=by grind
 have hne: ¬((to/64:Nat):Int)=((nw/64:Nat):Int):=by omega
 have HU1:Hid ((upTo nw S (nw/64*64) 64).length≤1024):=by
  have h1:=upTo_len (nw:=nw) hi.srt (nw/64*64) 64
  have h2:=hi.len_le
  show _≤1024
  omega
 obtain⟨U,hU⟩: ∃U,upTo nw S (nw/64*64) 64=U:=⟨_,rfl⟩
 rw[hU] at HSW HFE HU1
 clear hr hm hi htl htn hto hU hz
 generalize ((to/64:Nat):Int)=q1 at*
 generalize ((nw/64:Nat):Int)=q2 at*
 refine ge ?_
 go_upto_region 4 with fail
 clear hmx
 go_wp2_with (first
  |(go_at_call 85;refine(HSW.out).mono ?_;rintro e w1 ⟨⟨v1,rfl,ho1⟩,hr1,hon1⟩;obtain⟨av1,cv1,rfl⟩:=own_slice ho1;have e1:=hr1.tn;have HO1:=veil ho1;have HR1:=veil hr1;have HM1:=veil (HM.out.block (hon1.block mb hmm (fun e=>hbm e.symm) (fun e=>hgm e.symm)));have HF1:=veil (Fr.of_onlyW (S:=O3 b g mb) hon1 (.inl rfl) (.inr (.inl rfl)));clear ho1 hr1 hon1))
 go_region_held3 (fun w'=>w'.cell? (vA0 b)=some (vU6 (nw:Int))) (go_keep)
  (first
   |(go_at_call 86;first
     |(refine(HT1.out _).mono ?_;rintro e wx ⟨rfl,hw⟩;subst hw)
     |(refine cS (HT2.out _) ?_)))
 have HO1d:Hid (w1.drew.ownsRow w.heap.size 3 1 (.slice av1 U.length cv1) U.length (iv (spots U))):=own_kept HO1.out (fun _ _=>rfl)
 have HR1d:=veil HR1.out.drew
 have HM1d:Hid (IsM w1.drew mb fr s):=HM1.out.block rfl
 have HF1d:=veil HF1.out.drew
 have hu1:=HU1.out
 have hw1:=HF1.out.size
 clear e1 e0 HSW HT1 HT2 HM HO1 HR1 HM1 HF1 HU1
 go_wp2_with (first
  |(go_at_call 87;refine(HFE.out _ HR1d.out HM1d.out).mono ?_;rintro e w2 ⟨ls,HX,⟨v2,rfl,ho2⟩,hr2,hm2,hf2⟩;obtain⟨av2,cv2,rfl⟩:=own_slice ho2;have HV2:=veil<|own_kept HO1d.out (fun k hk=>hf2.block k (own_ge HO1d.out hk).2 (fun q=>by have:=(own_ge HO1d.out hk).1;rcases q with q|q|q<;>omega));have HO2:=veil ho2;have HR2:=veil hr2;have HM2:=veil hm2;have HF2:=veil (HF1d.out.trans hf2);have hd2:(dueL to nw S ls).length≤1024:=(by have h1:=congrArg List.length HX.out.1;grind);have hsz2:=hf2.size;clear ho2 hr2 hm2 hf2)
  |(at_builtin;(have hh:=HV2.out;clear hh);refine wpList_append_rows _ rfl _ _ rfl w.heap.size _ _ _ _ _ _ _ rfl HV2.out rfl HO2.out (iv_one _) (by omega) (Nat.le_trans hw1 hsz2) ?_;intro v' w6 hown' hgrow;obtain⟨av,cv,rfl⟩:=own_slice hown';have hge: ∀k,(Value.slice av1 U.length cv1).ownBlock=some k→w.heap.size≤k:=(fun k hk=>(own_ge HO1d.out hk).1);have HOx:=veil hown';have HRx:=veil (HR2.out.kept (hgrow.block b HR2.out.lt_b (fun e=>by have:=hge b e.symm;omega)) (hgrow.block g HR2.out.lt_g (fun e=>by have:=hge g e.symm;omega)));have HMx:Hid (∃s',IsM w6 mb (frL fr ls) s'):=(by obtain⟨s',q⟩:=HM2.out;exact⟨s',q.block (hgrow.block mb q.lt (fun e=>by have:=hge mb e.symm;omega))⟩);have HFx:Hid (Fr (O3 b g mb) w w6):=⟨hgrow.os.trans HF2.out.os,hgrow.tape.trans HF2.out.tape,hgrow.output.trans HF2.out.output,Nat.le_trans HF2.out.size hgrow.size,fun k hk hn=>(hgrow.block k (Nat.lt_of_lt_of_le hk HF2.out.size) (fun e=>by have:=hge k e.symm;omega)).trans (HF2.out.block k hk hn)⟩;clear hown' hgrow hge))
 have hadv:=HI.out.advance hle ht HX.out.2
 have hlenU:U.length+(dueL to nw S ls).length=(due to S).length:=by rw[←HX.out.1,List.length_append]
 have HOz:Hid (w6.ownsRow w.heap.size 3 1 (.slice av (due to S).length cv) (due to S).length (iv (spots (due to S)))):=by
  have q:=HOx.out
  rw[←iv_append,←spots_append,HX.out.1,hlenU] at q
  exact q
 have hlenI:(U.length:Int)+((dueL to nw S ls).length:Int)=((due to S).length:Int):=by omega
 rw[hlenU,hlenI]
 clear hlenI
 obtain⟨F',hF'⟩: ∃F',ffF to fr ls=F':=⟨_,rfl⟩
 obtain⟨L',hL'⟩: ∃L',ffL to fr ls=L':=⟨_,rfl⟩
 obtain⟨fr',hfr'⟩: ∃fr',frL fr ls=fr':=⟨_,rfl⟩
 rw[hF',hL',hfr'] at hadv
 have HADV:=veil hadv
 have HRz:Hid (Rep w6 b g n nw ct (.map (some mb)) F' L' A B E T):=by rw[←hF',←hL'];exact HRx.out
 have HMz:Hid (∃s',IsM w6 mb fr' s'):=by rw[←hfr'];exact HMx.out
 have HFz:=HFx
 clear hadv hlenU HOx HRx HMx HFx hF' hL' hfr' HX HI HFE HO1d HR1d HM1d HF1d hu1 hw1 hd2 hsz2 HV2 HO2 HR2 HM2 HF2 hne hneb
 obtain⟨ps,hps⟩: ∃ps,spots (due to S)=ps:=⟨_,rfl⟩
 have hpl:ps.length=(due to S).length:=by rw[←hps,spots_len]
 obtain⟨N,hN⟩: ∃N,(due to S).length=N:=⟨_,rfl⟩
 rw[hps] at HOz HADV HDN HD0
 have HPS:=veil hps
 rw[hN] at HOz HCL hdl hpl⊢
 have HPL:=veil hpl
 have HNN:=veil hN
 clear hpl hps hN
 obtain⟨c',hc'⟩: ∃c',(late to S).length=c':=⟨_,rfl⟩
 rw[hc'] at HADV HCL
 clear hc'
 go_loopw [34] (fun iv_ wr=> ∃j:Nat,j≤N∧iv_=vI6 (j:Int)∧Rep wr b g n nw ct (.map (some mb)) F' L' (zAt A 0 (ps.take j)) (zAt B 0 (ps.take j)) (zAt E 0 (ps.take j)) (zAt T false (ps.take j))∧(∃s',IsM wr mb fr' s')∧Fr (O3 b g mb) w wr∧wr.ownsRow w.heap.size 3 1 (.slice av N cv) N (iv ps)) (fun i _=>N-(intOf i).toNat)
 case atStart=>exact⟨0,by omega,rfl,by rw[List.take_zero,zAt_nil,zAt_nil,zAt_nil,zAt_nil];exact HRz.out,HMz.out,HFz.out,HOz.out⟩
 case round=>
  obtain⟨j,hj,rfl,hrep,⟨s2,hm2⟩,hfr,hown⟩:=hrel
  clear HRz HMz HFz HOz
  by_cases hjN:j<N
  ·obtain⟨r,rfl,hrb,hrl,hcell⟩:=cell_of_own hown j hjN
   have hjp:j<ps.length:=by have:=HPL.out;omega
   have hpj:ps.getD j 0=ps[j]:=by grind
   have hmem:ps[j]∈ps:=List.getElem_mem _
   have hpn:=HDN.out _ hmem
   obtain⟨q,hq⟩: ∃q,ps[j]=q+1:=⟨ps[j]-1,by have:=HD0.out _ hmem;omega⟩
   rw[hpj,hq] at hcell
   rw[hq] at hpn
   have hcell':wr.cell? (vAt r j)=some (vI6 (q:Int)):=by
    grind
   have htk:ps.take (j+1)=ps.take j++[q+1]:=by rw[List.take_succ_eq_append_getElem hjp,hq]
   have hnn:=HNN.out
   obtain⟨cp,en⟩:=hrep.en
   have n0:=hrep.ea (q+1) hpn;have n1:=hrep.eb (q+1) hpn;have n2:=hrep.ee (q+1) hpn;have n3:=hrep.et (q+1) hpn
   have fg:=hrep.fg
   have hjN':(j:Int)<(N:Int):=by omega
   have HREP:Hid (Rep ((((wr.setCell (vAt g ((q+1)*4)) (vI6 0)).setCell (vAt g ((q+1)*4+1)) (vI6 0)).setCell (vAt g ((q+1)*4+2)) (vU6 0)).setCell (vAt g ((q+1)*4+3)) (.bool false)) b g n nw ct (.map (some mb)) F' L' (zAt A 0 (ps.take (j+1))) (zAt B 0 (ps.take (j+1))) (zAt E 0 (ps.take (j+1))) (zAt T false (ps.take (j+1)))):=by
    rw[htk,zAt_more,zAt_more,zAt_more,zAt_more]
    exact(((hrep.setA (q+1) hpn 0).setB (q+1) hpn 0).setE (q+1) hpn 0).setT (q+1) hpn false
   have hK4: ∀k,k≠g→((((wr.setCell (vAt g ((q+1)*4)) (vI6 0)).setCell (vAt g ((q+1)*4+1)) (vI6 0)).setCell (vAt g ((q+1)*4+2)) (vU6 0)).setCell (vAt g ((q+1)*4+3)) (.bool false)).heap[k]? =wr.heap[k]? :=fun k hk=>by rw[Below.heap_setCell _ _ _ _ hk,Below.heap_setCell _ _ _ _ hk,Below.heap_setCell _ _ _ _ hk,Below.heap_setCell _ _ _ _ hk]
   have HMS:=veil (hm2.block (hK4 mb (fun e=>hgm e.symm)))
   have HFS:=veil ((((hfr.setCell (a:=(vAt g ((q+1)*4))) (.inr (.inl rfl)) (vI6 0)).setCell (a:=(vAt g ((q+1)*4+1))) (.inr (.inl rfl)) (vI6 0)).setCell (a:=(vAt g ((q+1)*4+2))) (.inr (.inl rfl)) (vU6 0)).setCell (a:=(vAt g ((q+1)*4+3))) (.inr (.inl rfl)) (.bool false))
   have HOS:=veil (own_kept hown (fun k hk=>hK4 k (by have:=(own_ge hown hk).1;omega)))
   have ql:q+1<n+1:=by omega
   have qb:q≤1024:=by omega
   clear hrep hm2 hfr hown hcell hjp hpj hmem hpn hq htk hK4 HCL HADV HPL HNN HDN HD0
   go_wp2
   go_roundw
   case rel=>exact⟨j+1,by omega,by go_num,HREP.out,⟨_,HMS.out⟩,HFS.out,HOS.out⟩
   case measure=>simp[intOf];omega
  ·obtain rfl:j=N:=by omega
   have hjN': ¬(j:Int)<(j:Int):=by omega
   have hct:=HCL.out
   have etc:=hrep.tc
   have etn:=hrep.tn
   have fb:=hrep.fb
   have hps:ps.take j=ps:=List.take_of_length_le (by have:=HPL.out;omega)
   rw[hps] at hrep
   have hcb:ct≤1024+1024:=by have:=HLN.out;omega
   have hwc:IntKind.i64.wrap ((ct:Int)-(j:Int))=(c':Int):=by rw[show((ct:Int)-(j:Int))=(c':Int) by omega];simp[IntKind.wrap,IntKind.bits,IntKind.signed];omega
   have hwc2:(ct:Int)-(j:Int)=(c':Int):=by omega
   have HREP:=veil<|(hrep.setN c').setW to
   have hK4: ∀k,k≠b→((wr.setCell (vAt b 131) (vI6 (c':Int))).setCell (vA0 b) (vU6 (to:Int))).heap[k]? =wr.heap[k]? :=fun k hk=>by rw[Below.heap_setCell _ _ _ _ hk,Below.heap_setCell _ _ _ _ hk]
   have HMS:=veil (hm2.block (hK4 mb (fun e=>hbm e.symm)))
   have HFS:=veil ((hfr.setCell (a:=(vAt b 131)) (.inl rfl) (vI6 (c':Int))).setCell (a:=(vA0 b)) (.inl rfl) (vU6 (to:Int)))
   have HOS:=veil (own_kept hown (fun k hk=>hK4 k (by have:=(own_ge hown hk).1;omega)))
   clear hrep hm2 hfr hown hps hK4 HCL HPL HDN HD0 hct
   go_wp2
   go_ret
   exact⟨⟨_,rfl,by rw[HNN.out,HPS.out];exact HOS.out⟩,⟨c',F',L',fr',_,_,_,_,s2,HREP.out,HMS.out,HADV.out,hbm,hgm,hn⟩,HFS.out⟩
end
end Go.Proofs.YtnmhcgpnhlhcgaaGreatDoor.Wh
namespace Go.Proofs.YtnmhcgpnhlhcgaaGreatDoor.Wh
open Go.RowKit Go.Lib
attribute [local go_sem ↓] Go.wp_at_zero Go.wp_at_succ
theorem new_isW (n:Nat) (w:World) (h1:1≤n) (h2:n≤1024):
  vCa 37 #[vI6 n] w fun e w'=> ∃b g mb,e= .returned (vPt b)∧(∀k,O3 b g mb k→w.heap.size≤k∧k<w'.heap.size)∧IsW w' b g mb n 0 []∧vBw w w':=by
 obtain⟨i0,hi,hz0,hz1,hz2⟩:=info_parts infoEntry
 have hmk: ∀w,(Instr.makeSlice 172 (vI6 ((n:Int)+1)) (vI6 ((n:Int)+1))).run Tryz.prog w= .ok (.slice (some (vA0 w.heap.size)) (n+1) (n+1)) (w.alloc (.cells (entryCells n) 196)):=by
  intro w
  have:=run_make w 172 196 i0 entryZero Tryz.underlying172 hi hz0 .i64 .i64 ((n:Int)+1) ((n:Int)+1) (by omega) (by omega) (by grind) (by omega)
  rw[hz1,show((n:Int)+1).toNat=n+1 by omega] at this
  exact this
 have HX:Hid (IsW (((w.alloc (.map #[] 0)).alloc (.cells (entryCells n) 196)).alloc (.cells (wheelCells w.heap.size (w.heap.size+1) n) 177)) (w.heap.size+1+1) (w.heap.size+1) w.heap.size n 0 []):=by
  refine⟨0,_,_,fun _=>none,_,_,_,_,0,new_rep w n,?_,?_,by omega,by omega,h2⟩
  ·refine(IsM.made w).block ?_
   rw[Below.heap_alloc _ _ _ (by simp;omega),Below.heap_alloc _ _ _ (by simp)]
  ·refine⟨List.Pairwise.nil,List.nodup_nil,by simp,by simp,by omega,rfl,fun s hs=>⟨rfl,rfl,trivial⟩,fun k hk=> .inl ⟨rfl,rfl⟩,fun i hi=>(by cases hi),(by simp),fun p hp _=>⟨rfl,rfl⟩⟩
 have hzw:=zeroWh
 have hzs:=zero_size
 have hmm:= @run_makeMap Tryz.prog
 clear hi hz0 hz1 hz2
 refine ge ?_
 go_wp2
 go_ret
 refine⟨_,_,_,rfl,?_,HX.out,(bzA.alloc (by simp) _).alloc (by simp;omega) _⟩
 rintro k (rfl|rfl|rfl)<;>simp<;>omega
end Go.Proofs.YtnmhcgpnhlhcgaaGreatDoor.Wh

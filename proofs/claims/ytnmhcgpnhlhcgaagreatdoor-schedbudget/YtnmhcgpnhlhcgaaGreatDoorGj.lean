/- YtnmhcgpnhlhcgaaGreatDoorGj: of the texts I18 I19 I20 I21 I22 I23 I24 I25 I26 I27 I28 I29 I30 I31 I32 I33 what is wanted. -/
import Derived.Test.YtnmhcgpnhlhcgaaGreatDoorG0
import Derived.Test.YtnmhcgpnhlhcgaaGreatDoorGi
import Derived.Test.YtnmhcgpnhlhcgaaGreatDoorGa
import Derived.OrdersHeld
import Derived.OrdersIn
import Derived.Laws.EntriesVeiled
import Derived.Shelf.SlicesE.Delete
import Derived.Deep.AppendLies
set_option maxHeartbeats 16000000
set_option maxRecDepth 100000
set_option linter.unusedVariables false
set_option linter.unusedSimpArgs false
namespace Go.Proofs.YtnmhcgpnhlhcgaaGreatDoor.Pi
open Go.Proofs.YtnmhcgpnhlhcgaaGreatDoor.Ke
open Go.Shelf
open Go.RowKit
section
variable {w:World} {base s:Nat} {vt vl:Value} {V:List Value} {T:List Th} {L:List Lk}
theorem Held_no (h:IsG w base s vt vl V T L) (t:Int) (ht:inT T t=false):vQ 198 #[vPt s,vI6 t] w (.slice none 0 0):=by
 have HT:=veil (hasT_ok h t)
 rw[ht] at HT
 clear h ht
 refine ge ?_
 go_wp2_with (go_at_call 128;refine cS HT.out ?_)
 go_ret
 exact⟨rfl,bzR⟩
def heldA (T:List Th) (L:List Lk) (t:Int):List Int:=if inT T t then heldOf L t else []
theorem Held_ok (h:IsG w base s vt vl V T L) (t:Int):vCa 198 #[vPt s,vI6 t] w fun e w'=> ∃v,e= .returned v∧w'.ownsRow w.heap.size 3 1 v (heldA T L t).length ((heldA T L t).map (Value.int .i64))∧vBw w w':=by
 unfold heldA
 cases ht:inT T t with
 |true=>
  rw[if_pos rfl]
  exact callsIn_wide.1 (Held_in h t ht)
 |false=>
  rw[if_neg (by simp)]
  grind[Pi.Held_no,Calls.mono,World.ownsRow_nil]
end
end Go.Proofs.YtnmhcgpnhlhcgaaGreatDoor.Pi
namespace Go.Proofs.YtnmhcgpnhlhcgaaGreatDoor.Pi
open Go.Proofs.YtnmhcgpnhlhcgaaGreatDoor.Ke
open Go.Lib
open Go.RowKit
theorem _root_.Go.Proofs.YtnmhcgpnhlhcgaaGreatDoor.Kept.far {l D k:Nat} {r:Loop} {W:World} (h:Kept l D r W) (h1:l≠k) (h2:D≠k) (o:Obj):Kept l D r (W.putObj k o):=
 ⟨(World.putObj_heap_other h1).trans h.1,(World.putObj_heap_other h2).trans h.2⟩
structure Abd (n:Nat) (J:Nat→World→Prop):Prop where
 al: ∀k W o,J k W→J k (World.alloc W o)
 pu: ∀k W l o o',n≤l→W.heap[l]? =some o→o.isCells=false→J k W→J k (W.putObj l o')
structure Kk (n:Nat) (S:Nat→Prop) (V V':World):Prop where
 kp:KeepsFrom n V V'
 kc: ∀b c t x,¬S b→V.heap[b]? =some (.cells c t x)→V'.heap[b]? =some (.cells c t x)
theorem Kk.refl (n:Nat) (S:Nat→Prop) (V:World):Kk n S V V:=⟨KeepsFrom.refl _ _,fun _ _ _ _ _ h=>h⟩
theorem Kk.trans {n:Nat} {S:Nat→Prop} {A B C:World} (h:Kk n S A B) (k:Kk n S B C):Kk n S A C:=⟨h.kp.trans k.kp,fun b c t x hs hb=>k.kc b c t x hs (h.kc b c t x hs hb)⟩
theorem Kk.wide {n n':Nat} {S:Nat→Prop} {A B:World} (h:Kk n S A B) (hn:n≤n'):Kk n' S A B:=⟨⟨h.kp.size,fun k o hk ho hc=>h.kp.same k o (by omega) ho hc⟩,h.kc⟩
theorem Kk.below {n:Nat} {S:Nat→Prop} {A B:World} (h:vBw A B):Kk n S A B:=
 ⟨⟨h.size,fun k o _ ho _=>(h.block k (Array.getElem?_eq_some_iff.1 ho).1).trans ho⟩,fun b c t x _ hb=>(h.block b (Array.getElem?_eq_some_iff.1 hb).1).trans hb⟩
theorem Kk.setCell {n:Nat} {S:Nat→Prop} {A B:World} (h:Kk n S A B) {a:Addr} (ha:S a.block) (v:Value):Kk n S A (B.setCell a v):=
 h.trans ⟨(KeepsOthers.setCell B a v).from n,fun b c t x hs hb=>(Below.heap_setCell _ _ _ _ (by grind)).trans hb⟩
theorem Kk.put {n:Nat} {S:Nat→Prop} {A B:World} (h:Kk n S A B) {l:Nat} {o o':Obj} (hl:l<n) (ho:B.heap[l]? =some o) (hc:o.isCells=false):Kk n S A (B.putObj l o'):=by
 refine h.trans ⟨⟨by simp,fun k x hk hx _=>(World.putObj_heap_other (by omega)).trans hx⟩,fun b c t x _ hb=>(World.putObj_heap_other (fun e=> ?_)).trans hb⟩
 subst e
 rw[hb] at ho
 obtain rfl:=Option.some.inj ho
 cases hc
theorem Kk.box {n:Nat} {S:Nat→Prop} {A B:World} (h:Kk n S A B) {b:Nat} {t:TypeId} {v:Value} (hs: ¬S b) (hb:Boxed A b t v):Boxed B b t v:=h.kc b _ _ _ hs hb
theorem box_put {V:World} {b:Nat} {ty:TypeId} {v:Value} {k:Nat} {o o':Obj} (hb:Boxed V b ty v) (ho:V.heap[k]? =some o) (hc:o.isCells=false):Boxed (V.putObj k o') b ty v:=by
 refine hb.kept (grownBy_putObj' V k o') (fun e=> ?_)
 cases e
 rw[show V.heap[b]? =_ from hb] at ho
 obtain rfl:=Option.some.inj ho
 cases hc
theorem rangeP {P:Program} {n:Nat} {g:Operand} {p:Tmp} {assign body:Code} {Q:Exit→Act→World→Prop} {a:Act} {w:World} {gf:Nat} {lb:Array Value}
  (hg:a.eval g= .func (.func gf) #[] lb) (eg: ∀args w,(callFunc gf args).run P w= .ok (.enter gf args) w)
  (J:Nat→World→Prop) (N Y:Nat→Prop) (enc:Nat→Value) (m:Nat) (a₁:Nat→Act) (S:Nat→Prop)
  (hA:Abd w.heap.size J)
  (hNo: ∀k W,N k→J k W→J (k+1) W) (h0:J 0 w)
  (hit: ∀(l:Nat) (J':Nat→World→Prop) (W:World),(∀k W,J' k W→J k W)→Abd W.heap.size J'→(∀k W,N k→J' k W→J' (k+1) W)→
   (∀k V,Y k→J' k V→YieldAt Fence.wide (n-1-1) P l #[enc k] V fun e V'=>e= .returned (.bool true)∧J' (k+1) V'∧Kk W.heap.size S V V')→J' 0 W→w.heap.size+2=W.heap.size→
   CallsIn Fence.wide (n-1) P gf (#[.func (.yield l) #[] #[]]++lb) W fun e W'=>(∃v,e= .returned v)∧J' m W')
  (has: ∀(l k:Nat) (W:World) (K:Act→World→Prop),K (a₁ k) W→assign.wpIn (Fence.wide.inRound l) (n-1-1) P (Exit.then K (fun _ _ _=>False)) {tmps:=a.tmps.setIfInBounds p (enc k),defers:=[]} W)
  (hbo: ∀(l k:Nat) (W:World),Y k→J k W→body.wpIn (Fence.wide.inRound l) (n-1-1) P (fun e _ W'=>e= .normal∧Kk w.heap.size S W W'∧J (k+1) W') (a₁ k) W)
  (hdo: ∀(D:Nat) (W:World),w.heap.size≤D→J m W→W.heap[D]? =some (.deferred (some []))→Q .normal {a with defers:={target:= .collected D,args:= #[]}::a.defers} W):
  (Code.rangeFunc g #[p] assign body).wpIn Fence.wide n P Q a w:=by
 refine wpIn_rangeFunc fun fn hfn=> ?_
 have hne:w.heap.size+1≠w.heap.size:=by omega
 obtain⟨r,hr⟩: ∃r:Loop,r={state:= .ready,pending:=none,fn,tmps:=a.tmps,params:= #[p],assign,body,defers:=w.heap.size}:=⟨_,rfl⟩
 have hk0:Kept (w.heap.size+1) w.heap.size r ((w.alloc (.deferred (some []))).alloc (.loop r)):=by
  refine⟨?_,(Below.heap_alloc _ _ _ (by simp)).trans (World.alloc_heap_new w _)⟩
  have:=World.alloc_heap_new (w.alloc (.deferred (some []))) (.loop r)
  simp_all
 have hready:r.state= .ready:=by rw[hr]
 refine⟨w.heap.size+1,[{target:= .collected w.heap.size,args:= #[]}],(w.alloc (.deferred (some []))).alloc (.loop r),{target:= .fn (.func gf) lb,args:= #[.func (.yield (w.heap.size+1)) #[] #[]]},(w.alloc (.deferred (some []))).alloc (.loop r),gf,#[.func (.yield (w.heap.size+1)) #[] #[]]++lb,(w.alloc (.deferred (some []))).alloc (.loop r),?_,?_,fun _ _=>trivial,?_,fun h=>(by cases h),?_⟩
 ·rw[hr];exact run_enterLoop_outer _ _ _ _ _
 ·simp only[resolve,hg]
  simp[go_sem]
 ·simp[invoke,go_sem,eg]
 ·refine(hit (w.heap.size+1) (fun k W=>J k W∧Kept (w.heap.size+1) w.heap.size r W) _ (by grind) ⟨fun k W o h=>⟨hA.al k W o h.1,h.2.alloc o⟩,fun k W l o o' hl ho hc h=> ?_⟩ (by grind) ?_ ⟨hA.al 0 _ _ (hA.al 0 _ _ h0),hk0⟩ (by simp)).mono ?_
  ·simp only[World.size_alloc] at hl
   exact⟨hA.pu k W l o o' (by omega) ho hc h.1,h.2.far (by omega) (by omega) o'⟩
  ·rintro k W hY ⟨hJ,hK⟩
   have hy:=run_yield (P:=P) (args:= #[enc k]) hK.1 (by grind)
   refine⟨_,_,_,_,hy,roundIn_of_wpIn (by rw[hr];exact hfn) ?_⟩
   have e1:r.assign=assign:=by rw[hr]
   have e2:r.body=body:=by rw[hr]
   have e3:((r.params.zip #[enc k]).foldl (fun tmps (t,a)=>tmps.setIfInBounds t a) r.tmps)=a.tmps.setIfInBounds p (enc k):=by simp_all
   rw[e1,e2,e3]
   refine has _ k W _ ?_
   refine⟨_,run_beginRound hK.1 hready,?_⟩
   have hJ1:J k (W.putObj (w.heap.size+1) (.loop {r with state:= .busy})):=hA.pu k W _ _ _ (by omega) hK.1 rfl hJ
   have hK1:=hK.put hne {r with state:= .busy}
   refine wpIn_mono (hbo _ k _ hY hJ1) ?_
   rintro e a3 W3 ⟨rfl,hk3,hJ3⟩
   have hK3:=hK1.keeps (by omega) lzr hk3.kp
   have hkk:Kk (w.heap.size+2) S W W3:=((Kk.refl _ S W).put (by omega) hK.1 rfl).trans (hk3.wide (by omega))
   refine⟨_,_,run_endRound none hK3.1,rfl,⟨hA.pu (k+1) W3 _ _ _ (by omega) hK3.1 rfl hJ3,?_⟩,?_⟩
   ·grind[Kept.put]
   ·simp only[World.size_alloc]
    exact hkk.put (by omega) hK3.1 rfl
  ·rintro e W2 ⟨⟨v,rfl⟩,hJ,hK⟩
   refine⟨none,_,?_,hdo _ _ lzr (hA.pu m W2 _ _ (.loop {r with state:= .exhausted}) (by omega) hK.1 rfl hJ) (hK.put hne _).2⟩
   have:=run_endLoop (P:=P) hK.1 (by grind)
   grind
end Go.Proofs.YtnmhcgpnhlhcgaaGreatDoor.Pi
namespace Go.Proofs.YtnmhcgpnhlhcgaaGreatDoor.Pi
open Go.Proofs.YtnmhcgpnhlhcgaaGreatDoor.Ke
open Go.Shelf
open Go.RowKit
attribute [local go_sem] Oper.semAt_some
structure Vw (n0:Nat) (W:World) (s gt ct:Nat) (a:Option Addr) (cap:Nat) (ln:Nat→Option Addr×Nat) (T:List Th) (L:List Lk):Prop where
 sl:s<n0
 tl:gt<n0
 al: ∀g,a=some (vA0 g)→g<n0
 t:RdT W s gt ct T
 c1:W.cell? (vAt s 1)=some (.slice a L.length cap)
 le:L.length≤cap∧cap≤maxLen
 ce: ∀(j:Nat) y,L[j]? =some y→ ∃g,a=some (vA0 g)∧W.cell? (vAt g (j*2))=some (vI6 y.h)∧W.cell? (vAt g (j*2+1))=some (.slice (ln j).1 y.l.length (ln j).2)∧y.l.length≤(ln j).2∧(ln j).2≤maxLen∧
  ∀(i:Nat) (x:Nat),y.l[i]? =some x→ ∃gg,(ln j).1=some (vA0 gg)∧gg<n0∧W.cell? (vAt gg i)=some (vI6 (x:Int))
theorem Vw.below {n0:Nat} {W W':World} {s gt ct:Nat} {a:Option Addr} {cap:Nat} {ln:Nat→Option Addr×Nat} {T:List Th} {L:List Lk} (h:Vw n0 W s gt ct a cap ln T L) (hb:Below n0 W W'):Vw n0 W' s gt ct a cap ln T L:=by
 refine⟨h.sl,h.tl,h.al,h.t.below hb h.sl h.tl,(hb.cell (p:=(vAt s 1)) h.sl).trans h.c1,h.le,fun j y hy=> ?_⟩
 obtain⟨g,e,y0,y1,l1,l2,hx⟩:=h.ce j y hy
 refine⟨g,e,(hb.cell (p:=(vAt g (j*2))) (h.al g e)).trans y0,(hb.cell (p:=(vAt g (j*2+1))) (h.al g e)).trans y1,l1,l2,fun i x hi=> ?_⟩
 obtain⟨gg,e1,e2,e3⟩:=hx i x hi
 exact⟨gg,e1,e2,(hb.cell (p:=(vAt gg i)) e2).trans e3⟩
def lineAt (V:List Value) (j:Nat):Option Addr×Nat:=match V[j]? with
 |some (.slice a _ c)=>(a,c)
 |_=>(none,0)
theorem IsG.vw {w:World} {base s:Nat} {vt vl:Value} {V:List Value} {T:List Th} {L:List Lk} (h:IsG w base s vt vl V T L): ∃gt ct a cap,vt= .slice (some (vA0 gt)) T.length ct∧vl= .slice a L.length cap∧Vw w.heap.size w s gt ct a cap (lineAt V) T L:=by
 obtain⟨gt,ct,e,ht⟩:=h.rdT
 obtain⟨a,cap,e',hl⟩:=h.rdL
 refine⟨gt,ct,a,cap,e,e',h.lt,(ownsRow_blk h.tho (k:=gt) (by rw[e];rfl)).2.1,fun g eg=>(ownsRow_blk h.lko (k:=g) (by rw[e',eg];rfl)).2.1,ht,hl.c1,hl.le,fun j y hy=> ?_⟩
 have hj:=(List.getElem?_eq_some_iff.1 hy).1
 obtain⟨v,hv⟩:=h.line hj
 obtain⟨g,cap',e2,_,_,_,_,_,hc⟩:=h.lform (by omega)
 rw[e'] at e2
 simp at e2
 obtain⟨y0,y1⟩:=hc j y v hy hv
 have hown:=h.lin j y v hy hv
 obtain⟨va,vc,rfl,l1,l2⟩:=form_of hown
 have el:lineAt V j=(va,vc):=by unfold lineAt;rw[hv]
 rw[el]
 refine⟨g,e2.1,y0,y1,l1,l2,fun i x hi=> ?_⟩
 have hil:=(List.getElem?_eq_some_iff.1 hi).1
 rcases hown.2 with ⟨e3,e0⟩|⟨gg,vc',cur,e3,_,hgg,_⟩
 ·omega
 ·simp at e3
  obtain⟨e4,rfl⟩:=e3
  refine⟨gg,e4,(Array.getElem?_eq_some_iff.1 hgg).1,?_⟩
  subst e4
  rw[hown.cellAt i (by omega)]
  simp[ints,hi]
theorem behind_append (A B:List Lk) (t:Nat):behind (A++B) t=behind A t++behind B t:=by unfold behind;simp
theorem take_snoc {α:Type} {l:List α} {j:Nat} {y:α} (h:l[j]? =some y):l.take (j+1)=l.take j++[y]:=by
 rw[List.take_add_one,h];rfl
theorem beh_no {L:List Lk} {t j:Nat} {y:Lk} (hy:L[j]? =some y) (h: ¬y.h=(t:Int)):behind (L.take (j+1)) t=behind (L.take j) t:=by
 rw[take_snoc hy,behind_append]
 simp[behind,h]
theorem beh_yes {L:List Lk} {t j:Nat} {y:Lk} (hy:L[j]? =some y) (h:y.h=(t:Int)):behind (L.take (j+1)) t=behind (L.take j) t++y.l:=by
 rw[take_snoc hy,behind_append]
 simp[behind,h]
theorem beh_pre (L:List Lk) (t j:Nat):behind (L.take j) t<+:behind L t:=by
 grind[List.take_append_drop,Pi.behind_append]
theorem beh_at {L:List Lk} {t j i x:Nat} {y:Lk} (hy:L[j]? =some y) (h:y.h=(t:Int)) (hx:y.l[i]? =some x):(behind L t)[(behind (L.take j) t).length+i]? =some x:=by
 obtain⟨r,hr⟩:=beh_pre L t (j+1)
 grind[Pi.beh_yes]
theorem held_places (nn:Nat) (l B1 B2 s gt ct:Nat) (a:Option Addr) (cap:Nat) (ln:Nat→Option Addr×Nat) (n0:Nat) (T:List Th) (L:List Lk) (t:Int) (n1:Nat) (J:Nat→World→Prop) (hL:L.length≤32)
  (hJ: ∀k W,J k W→W.cell? (vA0 B1)=some (vPt s)∧W.cell? (vA0 B2)=some (vI6 t)∧Vw n0 W s gt ct a cap ln T L)
  (hB: ∀k W,J k W→B2<W.heap.size)
  (hA:Abd n1 J)
  (hN: ∀k W,(∀y,L[k]? =some y→ ¬y.h=t)→J k W→J (k+1) W)
  (hY: ∀k W,(∃y,L[k]? =some y∧y.h=t)→J k W→YieldAt Fence.wide (nn-1) Tryz.prog l #[vI6 (k:Int)] W fun e W'=>e= .returned (.bool true)∧J (k+1) W')
  (W:World) (h0:J 0 W):
  CallsIn Fence.wide nn Tryz.prog 205 #[.func (.yield l) #[] #[],vPt B1,vPt B2] W fun e W'=>(∃v,e= .returned v)∧J L.length W':=by
 obtain⟨b1,_,hv⟩:=hJ 0 W h0
 have c1:=hv.c1
 have hle:=hv.le
 have HJ:=veil hJ
 have HB:=veil hB
 have HA:=veil hA
 have HN:=veil hN
 have HY:=veil hY
 have H0:=veil h0
 clear hJ hA hN hY h0 hv hB
 refine callsIn_of_wp Tryz.func205 rfl trivial ?_ rfl
 simp only[Tryz.ntmps205,List.size_toArray,List.length_cons,List.length_nil,Nat.reduceAdd,Nat.reduceSub,Array.replicate_succ,Array.replicate_zero,List.push_toArray,List.append_toArray,List.nil_append,List.cons_append]
 gi_wp2
 gi_loopw [11] (fun p wr=> ∃(j:Nat),j≤L.length∧p=vI6 j∧J j wr)
  (fun p _=>L.length-(RowKit.intOf p).toNat)
 case atStart=>exact⟨0,by omega,rfl,H0.out⟩
 case round=>
  obtain⟨j,hj,rfl,hJ0⟩:=hrel
  by_cases hjl:j<L.length
  ·have hjl':(j:Int)<(L.length:Int):=by omega
   obtain⟨y,hy⟩: ∃y,L[j]? =some y:=⟨_,List.getElem?_eq_getElem hjl⟩
   obtain⟨b1',b2,hv⟩:=HJ.out j wr hJ0
   obtain⟨g,rfl,y0,y1,_⟩:=hv.ce j y hy
   generalize y.l.length=vn at y1
   generalize (ln j).1=va at y1
   generalize (ln j).2=vc at y1
   have hlt2:=HB.out j wr hJ0
   have hne2: ¬B2=wr.heap.size:=by omega
   have HJ0:=veil hJ0
   have HYJ:=veil hy
   clear hJ0 hy hv
   by_cases hh:y.h=t
   ·have hh':(y.h==t)=true:=by simp[hh]
    have hJ1:J j (wr.alloc (.cells #[vI6 t,.slice va vn vc] 164)):=HA.out.al _ _ _ HJ0.out
    obtain⟨fn,tmps,assign,body,hyy,hR⟩:=HY.out j _ ⟨y,HYJ.out,hh⟩ hJ1
    clear hJ1
    gi_wp2
    refine⟨fun h=>(by cases h),hR.mono ?_⟩
    rintro e W3 ⟨rfl,hJ3⟩
    have HJ3:=veil hJ3
    clear hJ3 hyy hR HY
    gi_wp2
    go_roundw
    case rel=>exact⟨j+1,by omega,by go_num,HJ3.out⟩
    case measure=>simp[RowKit.intOf];omega
   ·have hh':(y.h==t)=false:=by simp[hh]
    have HJ1:Hid (J (j+1) (wr.alloc (.cells #[vI6 y.h,.slice va vn vc] 164))):=HN.out j _ (fun z hz=>by rw[HYJ.out] at hz;grind) (HA.out.al _ _ _ HJ0.out)
    gi_wp2
    refine⟨fun _ h=>(by cases h),?_⟩
    gi_wp2
    go_roundw
    case rel=>exact⟨j+1,by omega,by go_num,HJ1.out⟩
    case measure=>simp[RowKit.intOf];omega
  ·have hjl': ¬(j:Int)<(L.length:Int):=by omega
   obtain rfl:j=L.length:=by omega
   have HJ0:=veil hJ0
   clear hJ0
   gi_wp2
   go_end0
   exact⟨⟨_,rfl⟩,HJ0.out⟩
theorem behind_in (nn s:Nat) (t:Int) (w:World):
  CallsIn Fence.wide nn Tryz.prog 137 #[vPt s,vI6 t] w fun e w'=>e= .returned (.func (.func 177) #[] #[vPt w.heap.size,vPt (w.heap.size+1)])∧
   w'=(w.alloc (.cells #[vPt s] 96)).alloc (.cells #[vI6 t] 3):=by
 refine callsIn_of_wp Tryz.func137 rfl trivial ?_ rfl
 simp only[Tryz.ntmps137,List.size_toArray,List.length_cons,List.length_nil,Nat.reduceAdd,Nat.reduceSub,Array.replicate_succ,Array.replicate_zero,List.push_toArray,List.append_toArray,List.nil_append,List.cons_append]
 gi_wp2
 go_ret
 simp
theorem round_in {m m' l':Nat} {P:Program} {l:Nat} {f:FuncId} {tmps:Array Value} {assign body:Code} {w:World} {R:Ending→World→Prop} (h:RoundIn Fence.wide m P l f tmps assign body w R):RoundIn (Fence.wide.inRound l') m' P l f tmps assign body w R:=⟨h.1,fun c cs _=>h.2 c cs (fun d q=>by cases q)⟩
theorem behind_places (l B1 B2 s gt ct:Nat) (a:Option Addr) (cap:Nat) (ln:Nat→Option Addr×Nat) (n0:Nat) (T:List Th) (L:List Lk) (t:Nat) (n1:Nat) (J:Nat→World→Prop) (S:Nat→Prop) (hL:L.length≤32) (hS: ∀b,n1≤b→ ¬S b)
  (hJ: ∀k W,J k W→Boxed W B1 96 (vPt s)∧Boxed W B2 3 (vI6 (t:Int))∧Vw n0 W s gt ct a cap ln T L)
  (hA:Abd n1 J)
  (hY: ∀k W,k<(behind L t).length→J k W→YieldAt Fence.wide 8 Tryz.prog l #[vI6 (((behind L t)[k]?.getD 0:Nat):Int)] W fun e W'=>e= .returned (.bool true)∧J (k+1) W'∧Kk n1 S W W')
  (W:World) (hW:n1≤W.heap.size) (h0:J 0 W):
  CallsIn Fence.wide 9 Tryz.prog 177 #[.func (.yield l) #[] #[],vPt B1,vPt B2] W fun e W'=>(∃v,e= .returned v)∧J (behind L t).length W':=by
 obtain⟨hb1,hb2,hv⟩:=hJ 0 W h0
 have b1:=hb1.cell
 have b2:=hb2.cell
 have hl1:=hb1.lt
 have hl2:=hb2.lt
 have hn1: ¬B1=W.heap.size:=by omega
 have hn2: ¬B2=W.heap.size:=by omega
 have HJ:=veil hJ
 have HA:=veil hA
 have HY:=veil hY
 have H0:=veil h0
 clear hJ hA hY h0 hv hb1 hb2
 refine callsIn_of_wp_marks Tryz.func177 rfl trivial ?_ rfl
 simp only[Tryz.ntmps177,List.size_toArray,List.length_cons,List.length_nil,Nat.reduceAdd,Nat.reduceSub,Array.replicate_succ,Array.replicate_zero,List.push_toArray,List.append_toArray,List.nil_append,List.cons_append]
 gi_wp2_with (refine⟨trivial,?_⟩;gi_at_call 178;refine(held_in _ s (t:Int) _).mono ?_;rintro e w' ⟨rfl,rfl⟩)
 have hsz:((((W.alloc (.cells #[.func (.yield l) #[] #[]] 110)).alloc (.cells #[vPt s] 96)).alloc (.cells #[vI6 (t:Int)] 3))).heap.size=W.heap.size+3:=by simp
 have bY:=((Boxed.new W 110 (.func (.yield l) #[] #[])).alloc (.cells #[vPt s] 96)).alloc (.cells #[vI6 (t:Int)] 3)
 have bG:=(Boxed.new (W.alloc (.cells #[.func (.yield l) #[] #[]] 110)) 96 (vPt s)).alloc (.cells #[vI6 (t:Int)] 3)
 have bT:=Boxed.new ((W.alloc (.cells #[.func (.yield l) #[] #[]] 110)).alloc (.cells #[vPt s] 96)) 3 (vI6 (t:Int))
 have hJ0:=HA.out.al 0 _ (.cells #[vI6 (t:Int)] 3) (HA.out.al 0 _ (.cells #[vPt s] 96) (HA.out.al 0 _ (.cells #[.func (.yield l) #[] #[]] 110) H0.out))
 simp only[World.size_alloc] at bG bT⊢
 generalize ((W.alloc (.cells #[.func (.yield l) #[] #[]] 110)).alloc (.cells #[vPt s] 96)).alloc (.cells #[vI6 (t:Int)] 3)=W0 at hsz bY bG bT hJ0⊢
 have HS:=veil hS
 clear hS
 have hA2:Abd W0.heap.size (fun j V=>J ((behind (L.take j) t).length) V∧Boxed V W.heap.size 110 (.func (.yield l) #[] #[])∧Boxed V (W.heap.size+1) 96 (vPt s)∧Boxed V (W.heap.size+1+1) 3 (vI6 (t:Int))):=by
  refine⟨fun k V o h=>⟨HA.out.al _ _ _ h.1,h.2.1.alloc _,h.2.2.1.alloc _,h.2.2.2.alloc _⟩,fun k V x o o' hx ho hc h=>⟨HA.out.pu _ _ _ _ _ (by omega) ho hc h.1,box_put h.2.1 ho hc,box_put h.2.2.1 ho hc,box_put h.2.2.2 ho hc⟩⟩
 have HA2:=veil hA2
 have hNo2: ∀k (V:World),(∀y,L[k]? =some y→ ¬y.h=(t:Int))→(J ((behind (L.take k) t).length) V∧Boxed V W.heap.size 110 (.func (.yield l) #[] #[])∧Boxed V (W.heap.size+1) 96 (vPt s)∧Boxed V (W.heap.size+1+1) 3 (vI6 (t:Int)))→
   (J ((behind (L.take (k+1)) t).length) V∧Boxed V W.heap.size 110 (.func (.yield l) #[] #[])∧Boxed V (W.heap.size+1) 96 (vPt s)∧Boxed V (W.heap.size+1+1) 3 (vI6 (t:Int))):=by
  intro k V hn h
  cases hy:L[k]? with
  |none=>
   have hk:=List.getElem?_eq_none_iff.1 hy
   rw[List.take_of_length_le (by omega)]
   rw[List.take_of_length_le (by omega)] at h
   exact h
  |some y=>rw[beh_no hy (hn y hy)];exact h
 have hend:(behind (L.take L.length) t).length=(behind L t).length:=by simp
 refine rangeP (gf:=205) (lb:= #[vPt (W.heap.size+1),vPt (W.heap.size+1+1)]) rfl (enters_of Tryz.func205 (by rfl) rfl)
  (fun j V=>J ((behind (L.take j) t).length) V∧Boxed V W.heap.size 110 (.func (.yield l) #[] #[])∧Boxed V (W.heap.size+1) 96 (vPt s)∧Boxed V (W.heap.size+1+1) 3 (vI6 (t:Int)))
  (fun k=> ∀y,L[k]? =some y→ ¬y.h=(t:Int)) (fun k=> ∃y,L[k]? =some y∧y.h=(t:Int)) (fun k=>vI6 (k:Int)) L.length
  (fun k=>{tmps:= #[.func (.yield l) #[] #[],vPt B1,vPt B2,vPt W.heap.size,vI6 (k:Int),undef,undef,vPt s,vI6 (t:Int),.func (.func 205) #[] #[vPt (W.heap.size+1),vPt (W.heap.size+1+1)],vI6 (k:Int),undef,undef,undef,undef,undef,undef,undef,undef,undef,undef,undef,undef,undef,undef,undef,undef,undef,undef],defers:=[]})
  S hA2 hNo2 ⟨by simpa [behind] using hJ0,bY,bG,bT⟩ ?hit ?assign ?body ?done
 case hit=>
  intro l' J' W1 h1 h2 h3 h4 h5 h6
  exact held_places 8 l' _ _ s gt ct a cap ln n0 T L (t:Int) W1.heap.size J' hL (fun k V h=>⟨(h1 k V h).2.2.1.cell,(h1 k V h).2.2.2.cell,(HJ.out _ _ (h1 k V h).1).2.2⟩) (fun k V h=>(h1 k V h).2.2.2.lt) h2 h3 (fun k V hk h=>(h4 k V hk h).mono (fun e V' q=>⟨q.1,q.2.1⟩)) W1 h5
 case assign=>
  intro l' k V K hK
  gi_wp2
  exact hK
 case body=>
  rintro l' k V ⟨y,hy,hh⟩ ⟨hJk,hbY,hbG,hbT⟩
  obtain⟨hq1,hq2,hv⟩:=HJ.out _ _ hJk
  have c1:=hv.c1
  have hk:=(List.getElem?_eq_some_iff.1 hy).1
  have hk':(k:Int)<(L.length:Int):=by omega
  have hle:=hv.le
  obtain⟨g,rfl,y0,y1,l1,l2,_⟩:=hv.ce k y hy
  generalize hlv:(ln k).1=va at y1
  generalize hlc:(ln k).2=vc at y1 l1 l2
  replace hlv:=veil hlv
  replace hlc:=veil hlc
  have q1:=hq1.cell
  have HBY:=veil hbY
  have HBG:=veil hbG
  have HBT:=veil hbT
  have HJk:=veil hJk
  have HYy:=veil hy
  have hT2:y.l.length≤9223372036854775807:=by have:=l2;unfold maxLen at this;omega
  clear hbY hbG hbT hJk hq1 hq2 hv hJ0 bY bG bT
  gi_wp2
  gi_loopw [20] (fun p wr=> ∃(i:Nat),i≤y.l.length∧p=vI6 i∧J ((behind (L.take k) t).length+i) wr∧Boxed wr W.heap.size 110 (.func (.yield l) #[] #[])∧Boxed wr (W.heap.size+1) 96 (vPt s)∧Boxed wr (W.heap.size+1+1) 3 (vI6 (t:Int))∧Kk W0.heap.size S V wr)
   (fun p _=>y.l.length-(RowKit.intOf p).toNat)
  case atStart=>exact⟨0,by omega,rfl,HJk.out,HBY.out,HBG.out,HBT.out,Kk.refl _ _ _⟩
  case round=>
   obtain⟨i,hi,rfl,hJi,hbY,hbG,hbT,hkk⟩:=hrel
   by_cases hil:i<y.l.length
   ·have hil':(i:Int)<(y.l.length:Int):=by omega
    obtain⟨x,hx⟩: ∃x,y.l[i]? =some x:=⟨_,List.getElem?_eq_getElem hil⟩
    have hxb:=beh_at HYy.out hh hx
    obtain⟨_,_,hv⟩:=HJ.out _ _ hJi
    obtain⟨g2,e2,z0,z1,_,_,hcx⟩:=hv.ce k y HYy.out
    obtain⟨gg,e3,_,x0⟩:=hcx i x hx
    rw[hlv.out] at e3
    subst e3
    have bY:=hbY.cell
    have hplt:=(List.getElem?_eq_some_iff.1 hxb).1
    obtain⟨fn,tmps,assign,body,hyy,hR⟩:=HY.out _ wr hplt hJi
    rw[hxb] at hyy
    simp only[Option.getD_some] at hyy
    have HHY:=veil hbY
    have HHG:=veil hbG
    have HHT:=veil hbT
    have HKK:=veil hkk
    have HX:=veil hx
    have HI:=veil (show i+1≤y.l.length from hil)
    have HM:=veil (show y.l.length-(i+1)<y.l.length-i by omega)
    clear hbY hbG hbT hkk hJi hv hplt hxb z0 z1 e2 hx hcx
    gi_wp2
    refine(round_in hR).mono ?_
    rintro e W3 ⟨rfl,hJ3,hk3⟩
    have HA3:=veil (hk3.box (HS.out _ (by omega)) HHY.out)
    have HB3:=veil (hk3.box (HS.out _ (by omega)) HHG.out)
    have HC3:=veil (hk3.box (HS.out _ (by omega)) HHT.out)
    have HK3:=veil (HKK.out.trans (hk3.wide (by omega)))
    have HJ3:=veil hJ3
    clear hJ3 hk3 hyy hR HY
    gi_wp2
    go_roundw
    case rel=>exact⟨i+1,HI.out,by go_num,HJ3.out,HA3.out,HB3.out,HC3.out,HK3.out⟩
    assumption
   ·have hil': ¬(i:Int)<(y.l.length:Int):=by omega
    obtain rfl:i=y.l.length:=by omega
    have HJi:=veil hJi
    have HA5:=veil hbY
    have HB5:=veil hbG
    have HC5:=veil hbT
    have HK5:=veil hkk
    clear hJi hbY hbG hbT hkk
    gi_wp2
    rw[hsz] at HK5
    refine⟨HK5.out,?_,HA5.out,HB5.out,HC5.out⟩
    rw[beh_yes HYy.out hh,List.length_append]
    exact HJi.out
 case done=>
  rintro D V hD ⟨hJm,_⟩ hK
  gi_wp2
  refine⟨by simp,.inl ⟨_,_,rfl,run_takeDeferred hK,?_⟩⟩
  refine⟨_,results_none rfl _ _ _,⟨_,rfl⟩,?_⟩
  rw[←hend]
  exact HA.out.pu _ _ _ _ _ (by omega) hK rfl hJm
end Go.Proofs.YtnmhcgpnhlhcgaaGreatDoor.Pi
namespace Go.Proofs.YtnmhcgpnhlhcgaaGreatDoor.Pi
open Go.Proofs.YtnmhcgpnhlhcgaaGreatDoor.Ke
open Go.Shelf
open Go.RowKit
theorem below5 (w:World) (o1 o2 o3 o4 o5:Obj):vBw w (((((w.alloc o1).alloc o2).alloc o3).alloc o4).alloc o5):=
 ((((bzA.alloc (by simp) _).alloc (by simp;omega) _).alloc (by simp;omega) _).alloc (by simp;omega) _)
theorem max_mk (w:World) (a b:K):vCa 138 #[.agg (vKy a),.agg (vKy b)] w fun e w'=>e= .returned (.agg (vKy (maxK a b)))∧ ∃c1 c2 c3 c4 c5,w'=(((((w.alloc (.cells c1 120)).alloc (.cells c2 120)).alloc (.cells c3 120)).alloc (.cells c4 120)).alloc (.cells c5 120)):=by
 have HA:=veil (fun w=>above_mk w b a)
 unfold maxK
 cases hu:up b a<;>rw[hu] at HA<;>
 (refine ge ?_
  go_wp2_with (go_at_call 119;refine(HA.out _).mono ?_;rintro e w1 ⟨rfl,c1,c2,rfl⟩)
  simp[bodyPost,results,Tryz.results138,go_sem]
  grind)
theorem max_ok (w:World) (a b:K):vQ 138 #[.agg (vKy a),.agg (vKy b)] w (.agg (vKy (maxK a b))):=
 (max_mk w a b).mono fun e w' ⟨h,c1,c2,c3,c4,c5,hw⟩=>⟨h,by grind[Pi.below5]⟩
structure Vf (T:List Th) (L:List Lk):Prop where
 ac:Acyc L
 lt: ∀y∈L,∀t∈y.l,t<T.length
 l2:L.length≤32
 t2:T.length≤1024
theorem Fine.vf {T:List Th} {L:List Lk} (f:Fine T L):Vf T L:=⟨f.ac,fun y hy=>(f.lk y hy).2.2.1,f.l2,f.t2⟩
noncomputable def keyTo (T:List Th) (L:List Lk) (t n:Nat):K:=((behind L t).take n).foldl (fun k x=>maxK k (keyOf T L x)) (ownK T t)
theorem keyTo_end {T:List Th} {L:List Lk} (h:Acyc L) (t:Nat):keyTo T L t (behind L t).length=keyOf T L t:=by grind[Pi.keyTo,Pi.keyOf_eq]
theorem keyTo_next {T:List Th} {L:List Lk} {t n x:Nat} (hx:(behind L t)[n]? =some x):keyTo T L t (n+1)=maxK (keyTo T L t n) (keyOf T L x):=by
 unfold keyTo
 rw[take_snoc hx,List.foldl_append]
 rfl
def KBox (V:World) (b:Nat) (k:K):Prop:=V.heap[b]? =some (.cells (vKy k) 120 (0,0))
theorem KBox.lt {V:World} {b:Nat} {k:K} (h:KBox V b k):b<V.heap.size:=(Array.getElem?_eq_some_iff.1 h).1
theorem KBox.alloc {V:World} {b:Nat} {k:K} (h:KBox V b k) (o:Obj):KBox (V.alloc o) b k:=(Below.heap_alloc _ _ _ h.lt).trans h
theorem KBox.below {V V':World} {b:Nat} {k:K} (h:KBox V b k) (hb:vBw V V'):KBox V' b k:=(hb.block b h.lt).trans h
theorem KBox.put {V:World} {b l:Nat} {k:K} {o o':Obj} (h:KBox V b k) (ho:V.heap[l]? =some o) (hc:o.isCells=false):KBox (V.putObj l o') b k:=by
 refine(World.putObj_heap_other (fun e=> ?_)).trans h
 subst e
 rw[show V.heap[b]? =_ from h] at ho
 obtain rfl:=Option.some.inj ho
 cases hc
theorem KBox.at {V:World} {b:Nat} {k:K} (h:KBox V b k):At V b k:=by
 refine⟨?_,?_,?_⟩<;>(unfold World.cell?;rw[show V.heap[b]? =_ from h];rfl)
theorem KBox.frozen {V:World} {b:Nat} {k:K} (h:KBox V b k) (o:Nat):V.frozen? (vAt b o)=false:=by unfold World.frozen?;simp[show V.heap[b]? =_ from h]
theorem KBox.set {V:World} {b:Nat} {k:K} (h:KBox V b k) (k':K):KBox (((V.setCell (vA0 b) (.bool k'.e)).setCell (vAt b 1) (vU6 k'.d)).setCell (vAt b 2) (vU8 k'.l)) b k':=by
 have h1:=Go.Joins.block_setCell h (i:=0) (.bool k'.e)
 have h2:=Go.Joins.block_setCell h1 (i:=1) (vU6 k'.d)
 have h3:=Go.Joins.block_setCell h2 (i:=2) (vU8 k'.l)
 exact h3
attribute [local go_sem] Oper.semAt_some
theorem most_in (s gt ct : Nat) (a : Option Addr) (cap : Nat) (ln : Nat → Option Addr × Nat) (T : List Th) (L : List Lk) (f : Vf T L) (r : Nat → Nat) (hr : ∀ t s, Edge L t s → r t < r s) : ∀ (m t : Nat), r t < m → t < T.length → ∀ (n0 B1 B2 : Nat) (W : World), n0 ≤ W.heap.size → Vw n0 W s gt ct a cap ln T L →
  Boxed W B1 96 (vPt s) → Boxed W B2 192 (.func (.func 136) #[] #[vPt B1, vPt B2]) →
  CallsIn Fence.wide 10 Tryz.prog 136 #[vI6 (t : Int), vPt B1, vPt B2] W fun e W' => e = .returned (.agg (vKy (keyOf T L t))) ∧ vBw W W' := by
 intro m
 induction m with
 | zero =>
  intro t hm
  omega
 | succ m ih =>
  intro t hm ht n0 B1 B2 W hn0 hv hb1 hb2
  have ht' : (t : Int) < (T.length : Int) := by omega
  obtain ⟨x, hx⟩ : ∃ x, T[t]? = some x := ⟨_, List.getElem?_eq_getElem ht⟩
  have b1 := hb1.cell
  have l1 := hb1.lt
  have l2 := hb2.lt
  have c0 := hv.t.c0
  have le := hv.t.le
  obtain ⟨x0, x1, x2, x3⟩ := hv.t.ce t x hx
  have lg : gt < W.heap.size := by have := hv.tl; omega
  have ls : s < W.heap.size := by have := hv.sl; omega
  have n1 : ¬ B1 = W.heap.size := by omega
  have HV := veil hv
  have HB1 := veil hb1
  have HB2 := veil hb2
  have HIH := veil ih
  have HX := veil hx
  clear hv hb1 hb2 ih hx
  refine callsIn_of_wp_marks Tryz.func136 rfl trivial ?_ rfl
  simp only [Tryz.ntmps136, List.size_toArray, List.length_cons, List.length_nil, Nat.reduceAdd, Nat.reduceSub, Array.replicate_succ, Array.replicate_zero, List.push_toArray, List.append_toArray, List.nil_append, List.cons_append]
  gi_wp2_with (refine ⟨trivial, ?_⟩; gi_at_call 137; refine (behind_in _ s (t : Int) _).mono ?_; rintro e w' ⟨rfl, rfl⟩)
  have eown : ownK T t = x.k := by unfold ownK; rw [HX.out]; rfl
  have bR := (((KBox.alloc (V := W.alloc (.cells #[.bool false, vU6 0, vU8 0] 120)) (b := W.heap.size) (k := fixK 0) (World.alloc_heap_new W _) (.cells (vKy x.k) 120))).alloc (.cells #[vPt s] 96)).alloc (.cells #[vI6 (t : Int)] 3)
  have bK : KBox ((((W.alloc (.cells #[.bool false, vU6 0, vU8 0] 120)).alloc (.cells (vKy x.k) 120)).alloc (.cells #[vPt s] 96)).alloc (.cells #[vI6 (t : Int)] 3)) (W.heap.size + 1) x.k := by
   refine KBox.alloc (KBox.alloc ?_ _) _
   have := World.alloc_heap_new (W.alloc (.cells #[.bool false, vU6 0, vU8 0] 120)) (.cells (vKy x.k) 120)
   rw [World.size_alloc] at this
   exact this
  have bG := (Boxed.new ((W.alloc (.cells #[.bool false, vU6 0, vU8 0] 120)).alloc (.cells (vKy x.k) 120)) 96 (vPt s)).alloc (.cells #[vI6 (t : Int)] 3)
  have bT := Boxed.new (((W.alloc (.cells #[.bool false, vU6 0, vU8 0] 120)).alloc (.cells (vKy x.k) 120)).alloc (.cells #[vPt s] 96)) 3 (vI6 (t : Int))
  have hbe : vBw W ((((W.alloc (.cells #[.bool false, vU6 0, vU8 0] 120)).alloc (.cells (vKy x.k) 120)).alloc (.cells #[vPt s] 96)).alloc (.cells #[vI6 (t : Int)] 3)) := ((((Below.refl _ W).alloc lzr _).alloc (by simp) _).alloc (by simp; omega) _).alloc (by simp; omega) _
  have hsz : ((((W.alloc (.cells #[.bool false, vU6 0, vU8 0] 120)).alloc (.cells (vKy x.k) 120)).alloc (.cells #[vPt s] 96)).alloc (.cells #[vI6 (t : Int)] 3)).heap.size = W.heap.size + 4 := by simp
  simp only [World.size_alloc] at bG bT ⊢
  generalize ((((W.alloc (.cells #[.bool false, vU6 0, vU8 0] 120)).alloc (.cells (vKy x.k) 120)).alloc (.cells #[vPt s] 96)).alloc (.cells #[vI6 (t : Int)] 3)) = W0 at hsz bR bK bG bT hbe ⊢
  have hA : Abd W0.heap.size (fun n V => KBox V W.heap.size (fixK 0) ∧ KBox V (W.heap.size + 1) (keyTo T L t n) ∧ Boxed V (W.heap.size + 1 + 1) 96 (vPt s) ∧ Boxed V (W.heap.size + 1 + 1 + 1) 3 (vI6 (t : Int)) ∧ vBw W V) := by
   refine ⟨fun k V o h => ⟨h.1.alloc _, h.2.1.alloc _, h.2.2.1.alloc _, h.2.2.2.1.alloc _, h.2.2.2.2.alloc h.2.2.2.2.size _⟩, fun k V q o o' hq ho hc h => ⟨h.1.put ho hc, h.2.1.put ho hc, box_put h.2.2.1 ho hc, box_put h.2.2.2.1 ho hc, ?_⟩⟩
   have hz := h.2.2.2.2
   exact ⟨hz.os, hz.tape, hz.output, by have := hz.size; simp_all, fun b hb => (World.putObj_heap_other (by omega)).trans (hz.block b hb)⟩
  refine rangeP (gf := 177) (lb := #[vPt (W.heap.size + 1 + 1), vPt (W.heap.size + 1 + 1 + 1)]) rfl (enters_of Tryz.func177 (by rfl) rfl)
   (fun n V => KBox V W.heap.size (fixK 0) ∧ KBox V (W.heap.size + 1) (keyTo T L t n) ∧ Boxed V (W.heap.size + 1 + 1) 96 (vPt s) ∧ Boxed V (W.heap.size + 1 + 1 + 1) 3 (vI6 (t : Int)) ∧ vBw W V)
   (fun _ => False) (fun n => n < (behind L t).length) (fun n => vI6 (((behind L t)[n]?.getD 0 : Nat) : Int)) (behind L t).length
   (fun n => { tmps := #[vI6 (t : Int), vPt B1, vPt B2, undef, vPt W.heap.size, vPt (W.heap.size + 1), vI6 (((behind L t)[n]?.getD 0 : Nat) : Int), vPt s, vPt s, vPt s, .slice (some (vA0 gt)) T.length ct, vI6 (t : Int), .pointer (some (vAt gt (t * 4))), .pointer (some (vAt gt (t * 4))), .agg (vKy x.k), vPt s, vI6 (t : Int), .func (.func 177) #[] #[vPt (W.heap.size + 1 + 1), vPt (W.heap.size + 1 + 1 + 1)], vI6 (((behind L t)[n]?.getD 0 : Nat) : Int), undef, undef, undef, undef, undef, undef], defers := [] })
   (fun b => b = W.heap.size + 1) hA (fun _ _ h => h.elim) ⟨bR, by unfold keyTo; simpa [eown] using bK, bG, bT, hbe⟩ ?hit ?assign ?body ?done
  case hit =>
   intro l' J' W1 h1 h2 h3 h4 h5 h6
   exact behind_places l' _ _ s gt ct a cap ln n0 T L t W1.heap.size J' (fun b => b = W.heap.size + 1) f.l2 (fun b hb => by omega) (fun k V h => ⟨(h1 k V h).2.2.1, (h1 k V h).2.2.2.1, HV.out.below ((h1 k V h).2.2.2.2.mono hn0)⟩) h2 (fun k V hk h => h4 k V hk h) W1 lzr h5
  case assign =>
   intro l' k V K hK
   gi_wp2
   exact hK
  case body =>
   rintro l' n V hn ⟨hR, hK, hG, hT, hB⟩
   obtain ⟨y, hy⟩ : ∃ y, (behind L t)[n]? = some y := ⟨_, List.getElem?_eq_getElem hn⟩
   rw [hy, Option.getD_some]
   have hed := mem_behind.1 (List.mem_of_getElem? hy)
   have hyl : y < T.length := by obtain ⟨z, hz, hzl, _⟩ := hed; exact f.lt z hz y hzl
   have hry : r y < m := by grind
   have k0 := hK.at.1
   have k1 := hK.at.2.1
   have k2 := hK.at.2.2
   have HW : Hid (∀ V', vBw V V' → vCa 136 #[vI6 (y : Int), vPt B1, vPt B2] V' fun e W' => e = .returned (.agg (vKy (keyOf T L y))) ∧ vBw V' W') := by
    intro V' hV'
    have hb' := hB.trans (hV'.mono hB.size)
    exact (callsIn_wide.1 (HIH.out y hry hyl n0 B1 B2 V' (Nat.le_trans hn0 hb'.size) (HV.out.below (hb'.mono hn0)) ((hb'.block B1 l1).trans HB1.out) ((hb'.block B2 l2).trans HB2.out)))
   have hb2V : Boxed V B2 192 (.func (.func 136) #[] #[vPt B1, vPt B2]) := (hB.block B2 l2).trans HB2.out
   have b2 := hb2V.cell
   have HMx : Hid (∀ V', vCa 138 #[.agg (vKy (keyTo T L t n)), .agg (vKy (keyOf T L y))] V' fun e W' => e = .returned (.agg (vKy (maxK (keyTo T L t n) (keyOf T L y)))) ∧ vBw V' W') := fun V' => max_ok V' _ _
   have HN := veil (keyTo_next (T := T) hy)
   generalize keyTo T L t n = kn at HMx HN hK k0 k1 k2
   generalize keyOf T L y = ky at HW HMx HN
   have fz := hK.frozen
   have HR := veil hR
   have HK := veil hK
   have HG := veil hG
   have HT := veil hT
   have HB := veil hB
   clear hR hK hG hT hB hb2V
   have lB2 : B2 < V.heap.size := by have := HB.out.size; omega
   have hB2n : B2 ≠ W.heap.size + 1 := by omega
   have HFin : Hid (∀ V2, vBw V V2 → (fun V3 => KBox V3 W.heap.size (fixK 0) ∧ KBox V3 (W.heap.size + 1) (keyTo T L t (n + 1)) ∧ Boxed V3 (W.heap.size + 1 + 1) 96 (vPt s) ∧ Boxed V3 (W.heap.size + 1 + 1 + 1) 3 (vI6 (t : Int)) ∧ vBw W V3)
     (((V2.setCell (vA0 (W.heap.size + 1)) (.bool (maxK kn ky).e)).setCell (vAt (W.heap.size + 1) 1) (vU6 (maxK kn ky).d)).setCell (vAt (W.heap.size + 1) 2) (vU8 (maxK kn ky).l))) := by
    intro V2 hb2
    have e : ∀ b, b ≠ W.heap.size + 1 → (((V2.setCell (vA0 (W.heap.size + 1)) (.bool (maxK kn ky).e)).setCell (vAt (W.heap.size + 1) 1) (vU6 (maxK kn ky).d)).setCell (vAt (W.heap.size + 1) 2) (vU8 (maxK kn ky).l)).heap[b]? = V2.heap[b]? := fun b hb => by
     rw [Below.heap_setCell _ _ _ _ hb, Below.heap_setCell _ _ _ _ hb, Below.heap_setCell _ _ _ _ hb]
    refine ⟨(e _ (by omega)).trans (HR.out.below hb2), ?_, (e _ (by omega)).trans ((hb2.block _ HG.out.lt).trans HG.out), (e _ (by omega)).trans ((hb2.block _ HT.out.lt).trans HT.out), ?_⟩
    ·rw [HN.out]
     exact (HK.out.below hb2).set _
    ·exact (((HB.out.trans (hb2.mono HB.out.size)).setCell (p := (vA0 (W.heap.size + 1))) (by simp) _).setCell (p := (vAt (W.heap.size + 1) 1)) (by simp) _).setCell (p := (vAt (W.heap.size + 1) 2)) (by simp) _
   gi_wp2
   refine region_round (fun w' => w'.cell? (vA0 B2) = some (.func (.func 136) #[] #[vPt B1, vPt B2])) (by rfl) (by kernel_rfl) (by rintro ⟨a, w, h⟩; exact absurd (show Exit.outgrown = Exit.normal from h.1) (by simp)) b2 (fun hHeld => ?_)
   refine st ?_
   repeat' first
    | refine dn ?_
    | refine tk ?_
    | refine rd ?_
    | exact opZ
    | refine opN ?_
    | refine opS ?_ ?_
    | (refine opY 3 (fun K hK => ?_)
       go_simp
       go_at_call 136
       refine (HW.out _ ((Below.refl _ V).drew)).mono ?_
       rintro e V1 ⟨rfl, hb⟩
       have hb1 : vBw V V1 := ((Below.refl _ V).drew).trans hb
       clear hb
       have HB1V := veil hb1
       have j0 := (HK.out.below hb1).at.1
       have j1 := (HK.out.below hb1).at.2.1
       have j2 := (HK.out.below hb1).at.2.2
       have q1 := (hb1.cell (p := (vA0 B2)) lB2).trans b2
       clear hb1
       refine hK.out _ _ ?_ (fun hHeld => ?_)
       ·exact q1
       clear hK K
       try simp only [puX])
    | (refine opY 4 (fun K hK => ?_)
       go_simp
       go_at_call 138
       refine (HMx.out _).mono ?_
       rintro e V2 ⟨rfl, hb⟩
       have hb2 := HB1V.out.trans (hb.mono HB1V.out.size)
       clear hb
       have HB2V := veil hb2
       have hK2 := HK.out.below hb2
       have i0 := hK2.at.1
       have i1 := hK2.at.2.1
       have i2 := hK2.at.2.2
       have fz2 := hK2.frozen
       have q2 := (hb2.cell (p := (vA0 B2)) lB2).trans b2
       have HK2 := veil hK2
       clear hb2 hK2
       refine hK.out _ _ ?_ (fun hHeld => ?_)
       ·exact q2
       clear hK K
       try simp only [puX])
    | (refine opY _ (fun K hK => ?_)
       go_simp
       refine hK.out _ _ ?_ (fun hHeld => ?_)
       ·omega
       clear hK K
       try simp only [puX])
    | (refine opY _ (fun K hK => ?_)
       go_simp
       refine hK.out _ _ ?_ (fun hHeld => ?_)
       ·exact (World.cell?_of_block (by rw [Below.heap_setCell _ _ _ _ hB2n, Below.heap_setCell _ _ _ _ hB2n, Below.heap_setCell _ _ _ _ hB2n])).trans q2
       clear hK K
       try simp only [puX])
   all_goals
    refine ⟨?_⟩
    exact ⟨rfl, (((Kk.below (S := fun b => b = W.heap.size + 1) HB2V.out).setCell (a := (vA0 (W.heap.size + 1))) rfl _).setCell (a := (vAt (W.heap.size + 1) 1)) rfl _).setCell (a := (vAt (W.heap.size + 1) 2)) rfl _, HFin.out V2 HB2V.out⟩
  case done =>
   rintro D V hD ⟨hR, hK, hG, hT, hB⟩ hD2
   rw [keyTo_end f.ac] at hK
   have k0 := hK.at.1
   have k1 := hK.at.2.1
   have k2 := hK.at.2.2
   have fz := hR.frozen
   have r0 := hR.at.1
   have r1 := hR.at.2.1
   have r2 := hR.at.2.2
   have HR := veil hR
   have HB := veil hB
   clear hR hK hG hT hB
   gi_wp2
   have hR3 := HR.out.set (keyOf T L t)
   have hD3 : ∀ b, b ≠ W.heap.size → (((V.setCell (vA0 W.heap.size) (.bool (keyOf T L t).e)).setCell (vAt W.heap.size 1) (vU6 (keyOf T L t).d)).setCell (vAt W.heap.size 2) (vU8 (keyOf T L t).l)).heap[b]? = V.heap[b]? := fun b hb => by
    rw [Below.heap_setCell _ _ _ _ hb, Below.heap_setCell _ _ _ _ hb, Below.heap_setCell _ _ _ _ hb]
   have hK1 := (hD3 D (by omega)).trans hD2
   refine ⟨by simp, .inl ⟨_, _, rfl, run_takeDeferred hK1, ?_⟩⟩
   have hA5 := hR3.put (o' := .deferred none) hK1 rfl
   have d0 := hA5.at.1
   have d1 := hA5.at.2.1
   have d2 := hA5.at.2.2
   refine ⟨.agg (vKy (keyOf T L t)), ?_, rfl, ?_⟩
   ·simp [results, Tryz.f136, go_sem, d0, d1, d2]
   ·refine (((HB.out.setCell (p := (vA0 W.heap.size)) (by simp) (.bool (keyOf T L t).e)).setCell (p := (vAt W.heap.size 1)) (by simp) (vU6 (keyOf T L t).d)).setCell (p := (vAt W.heap.size 2)) (by simp) (vU8 (keyOf T L t).l)).trans ?_
    exact belowK_b (w := W) lzr _ D _ _ (by omega) hK1 rfl rfl
end Go.Proofs.YtnmhcgpnhlhcgaaGreatDoor.Pi
namespace Go.Proofs.YtnmhcgpnhlhcgaaGreatDoor.Pi
open Go.Proofs.YtnmhcgpnhlhcgaaGreatDoor.Ke
open Go.Lib
open Go.RowKit
noncomputable def keyA (T:List Th) (L:List Lk) (t:Int):K:=if inT T t then keyOf T L t.toNat else fixK 0
section
variable {w:World} {base s:Nat} {vt vl:Value} {V:List Value} {T:List Th} {L:List Lk} {n0 gt ct cap:Nat} {a:Option Addr} {ln:Nat→Option Addr×Nat}
theorem hasT_v (h:Vw n0 w s gt ct a cap ln T L) (t:Int):vS 128 #[vPt s,vI6 t] w (.bool (inT T t)):=by
 have c0:=h.t.c0
 have hle:=h.t.le
 clear h
 unfold inT
 by_cases h0:0≤t
 ·refine ge ?_
  go_wp2
  go_ret
  simp_all
 ·refine ge ?_
  go_wp2
  go_ret
  exact⟨by simp;omega,rfl⟩
theorem key_no (h:Vw n0 w s gt ct a cap ln T L) (hn:n0≤w.heap.size) (t:Int) (ht:inT T t=false):vQ 83 #[vPt s,vI6 t] w (.agg (vKy (fixK 0))):=by
 have HT:=veil (fun w' (hb:vBw w w')=>hasT_v (h.below (hb.mono hn)) t)
 simp only[ht] at HT
 clear h ht hn
 refine ge ?_
 go_wp2_with (go_at_call 128;refine cS (HT.out _ (by first|exact bzR|exact bzA|exact bzA.alloc (by simp) _)) ?_)
 simp[bodyPost,results,Tryz.results83,go_sem,fixK]
 exact bzA.alloc (by simp) _
theorem key_yes (h:Vw n0 w s gt ct a cap ln T L) (f:Vf T L) (hn:n0≤w.heap.size) (t:Nat) (ht:t<T.length):vQ 83 #[vPt s,vI6 (t:Int)] w (.agg (vKy (keyOf T L t))):=by
 have ht':inT T (t:Int)=true:=by unfold inT;grind
 have HT:=veil (fun w' (hb:vBw w w')=>hasT_v (h.below (hb.mono hn)) (t:Int))
 simp only[ht'] at HT
 obtain⟨B,r,hb,hr⟩:=f.ac
 have HM:=veil (fun B1 B2 W' (hb:vBw w W') h1 h2=>callsIn_wide.1 (most_in s gt ct a cap ln T L f r hr (r t+1) t (by omega) ht n0 B1 B2 W' (Nat.le_trans hn hb.size) (h.below (hb.mono hn)) h1 h2))
 clear h ht' hn hb hr
 have HB1:=veil (((Boxed.new w 96 (vPt s)).alloc (.cells #[.bool false,vU6 0,vU8 0] 120)).alloc (.cells #[.func (.func 136) #[] #[vPt w.heap.size,vPt (w.heap.size+1+1)]] 192))
 have HB2:Hid (Boxed (((w.alloc (.cells #[vPt s] 96)).alloc (.cells #[.bool false,vU6 0,vU8 0] 120)).alloc (.cells #[.func (.func 136) #[] #[vPt w.heap.size,vPt (w.heap.size+1+1)]] 192)) (w.heap.size+1+1) 192 (.func (.func 136) #[] #[vPt w.heap.size,vPt (w.heap.size+1+1)])):=by
  have:=Boxed.new ((w.alloc (.cells #[vPt s] 96)).alloc (.cells #[.bool false,vU6 0,vU8 0] 120)) 192 (.func (.func 136) #[] #[vPt w.heap.size,vPt (w.heap.size+1+1)])
  simp only[World.size_alloc] at this
  exact this
 have hbe:vBw w (((w.alloc (.cells #[vPt s] 96)).alloc (.cells #[.bool false,vU6 0,vU8 0] 120)).alloc (.cells #[.func (.func 136) #[] #[vPt w.heap.size,vPt (w.heap.size+1+1)]] 192)):=(((Below.refl _ w).alloc lzr _).alloc (by simp) _).alloc (by simp;omega) _
 have HBE:=veil hbe
 have HRB:Hid (KBox (((w.alloc (.cells #[vPt s] 96)).alloc (.cells #[.bool false,vU6 0,vU8 0] 120)).alloc (.cells #[.func (.func 136) #[] #[vPt w.heap.size,vPt (w.heap.size+1+1)]] 192)) (w.heap.size+1) (fixK 0)):=by
  refine KBox.alloc ?_ _
  have:=World.alloc_heap_new (w.alloc (.cells #[vPt s] 96)) (.cells #[.bool false,vU6 0,vU8 0] 120)
  rw[World.size_alloc] at this
  exact this
 have HM2:=veil (HM.out w.heap.size (w.heap.size+1+1) _ hbe HB1.out HB2.out)
 clear hbe HM HB1 HB2
 refine ge ?_
 go_wp2_with (first
  |(go_at_call 128;refine(HT.out _ (by first|exact bzR|exact bzA|exact bzA.alloc (by simp) _)).mono ?_;rintro e w1 ⟨rfl,hw⟩;subst hw)
  |(go_at_call 136;refine(HM2.out).mono ?_;rintro e w1 ⟨rfl,hb1⟩;have hkb:=HRB.out.below hb1;have r0:=hkb.at.1;have r1:=hkb.at.2.1;have r2:=hkb.at.2.2;have fz:=hkb.frozen;replace hb1:=veil hb1;replace hkb:=veil hkb))
 have hset:=(hkb.out.set (keyOf T L t)).at
 have d0:=hset.1
 have d1:=hset.2.1
 have d2:=hset.2.2
 simp[bodyPost,results,Tryz.results83,go_sem,d0,d1,d2]
 have hb3:=HBE.out.trans (hb1.out.mono HBE.out.size)
 exact((hb3.setCell (p:=(vA0 (w.heap.size+1))) (by simp) _).setCell (p:=(vAt (w.heap.size+1) 1)) (by simp) _).setCell (p:=(vAt (w.heap.size+1) 2)) (by simp) _
theorem key_v (h:Vw n0 w s gt ct a cap ln T L) (f:Vf T L) (hn:n0≤w.heap.size) (t:Int):vQ 83 #[vPt s,vI6 t] w (.agg (vKy (keyA T L t))):=by
 unfold keyA
 cases ht:inT T t with
 |false=>exact key_no h hn t ht
 |true=>
  grind[Pi.inT_yes,Pi.key_yes]
theorem key_ok (h:IsG w base s vt vl V T L) (t:Int):vQ 83 #[vPt s,vI6 t] w (.agg (vKy (keyA T L t))):=by
 obtain⟨gt,ct,a,cap,_,_,hv⟩:=h.vw
 exact key_v hv h.f.vf lzr t
end
def foreTo (g:Nat→K) (l:List Nat):Nat→Int×K
 |0=>(-1,fixK 0)
 |n+1=>if (foreTo g l n).1= -1∨up (g (l[n]?.getD 0)) (foreTo g l n).2=true then((n:Int),g (l[n]?.getD 0)) else foreTo g l n
section
variable {w:World} {s:Nat} {T:List Th} {L:List Lk} {n0 gt ct cap:Nat} {a:Option Addr} {ln:Nat→Option Addr×Nat}
theorem fore_v (h:Vw n0 w s gt ct a cap ln T L) (f:Vf T L) (hn:n0≤w.heap.size) (l:List Nat) (va:Option Addr) (vc:Nat) (hl: ∀x∈l,x<T.length) (h1:l.length≤vc) (h2:vc≤maxLen)
  (hc: ∀(i:Nat) (x:Nat),l[i]? =some x→ ∃gg,va=some (vA0 gg)∧gg<n0∧w.cell? (vAt gg i)=some (vI6 (x:Int))):
  vQ 192 #[vPt s,.slice va l.length vc] w (vI6 (foreTo (keyOf T L) l l.length).1):=by
 have HC:=veil hc
 have HV:=veil h
 have HF:=veil f
 have HL:=veil hl
 clear h hc hl
 have h3:l.length≤9223372036854775807:=by unfold maxLen at h2;omega
 refine ge ?_
 go_wp2
 go_loopw [5,12] (fun b i wr=> ∃(j:Nat),j≤l.length∧i=vI6 j∧b=vI6 (foreTo (keyOf T L) l j).1∧KBox wr w.heap.size (foreTo (keyOf T L) l j).2∧vBw w wr) (fun _ i _=>l.length-(RowKit.intOf i).toNat)
 case atStart=>exact⟨0,by omega,rfl,rfl,World.alloc_heap_new w _,(Below.refl _ w).alloc lzr _⟩
 case round=>
  obtain⟨j,hj,rfl,rfl,hkb,hbe⟩:=hrel
  by_cases hjl:j<l.length
  ·have hjl':(j:Int)<(l.length:Int):=by omega
   obtain⟨x,hx⟩: ∃x,l[j]? =some x:=⟨_,List.getElem?_eq_getElem hjl⟩
   obtain⟨gg,rfl,hgg,x0'⟩:=HC.out j x hx
   have x0:=(hbe.cell (p:=(vAt gg j)) (Nat.lt_of_lt_of_le hgg hn)).trans x0'
   clear x0'
   have hxl:=HL.out x (List.mem_of_getElem? hx)
   have HKY:=veil (key_yes (HV.out.below (hbe.mono hn)) HF.out (Nat.le_trans hn hbe.size) x hxl)
   have enext:Hid (foreTo (keyOf T L) l (j+1)=if (foreTo (keyOf T L) l j).1= -1∨up (keyOf T L x) (foreTo (keyOf T L) l j).2=true then((j:Int),keyOf T L x) else foreTo (keyOf T L) l j):=by
    show _=_
    rw[foreTo,hx,Option.getD_some]
   generalize hG:foreTo (keyOf T L) l (j+1)=G at enext
   replace hG:=veil hG
   generalize foreTo (keyOf T L) l j=F at hkb enext⊢
   generalize keyOf T L x=kx at HKY enext
   obtain⟨b,m⟩:=F
   dsimp only at hkb enext⊢
   have HB:=veil hbe
   have HK:=veil hkb
   have HI:=veil (show j+1≤l.length from hjl)
   clear hbe hkb hx
   by_cases hb:b= -1
   ·subst hb
    have eG:=enext.out
    rw[if_pos (.inl rfl)] at eG
    replace eG:=veil eG
    go_wp2_with (go_at_call 83;refine(HKY.out).mono ?_;rintro e w1 ⟨rfl,hb1⟩;have HB1:=veil (HB.out.trans (hb1.mono HB.out.size));have HK1:=veil (HK.out.below hb1);clear hb1)
    have HW3:Hid (KBox (w1.alloc (.cells (vKy kx) 120)) w1.heap.size kx∧KBox (w1.alloc (.cells (vKy kx) 120)) w.heap.size m∧vBw w (w1.alloc (.cells (vKy kx) 120))∧w1.heap.size≠w.heap.size):=⟨World.alloc_heap_new w1 _,HK1.out.alloc _,HB1.out.alloc HB1.out.size _,by have:=HK1.out.lt;omega⟩
    clear HB1 HK1 HKY HK HB
    generalize w1.alloc (.cells (vKy kx) 120)=W3 at HW3⊢
    generalize w1.heap.size=q at HW3⊢
    have hq3:=HW3.out
    obtain⟨kq,km,hbw,hqn⟩:=hq3
    have a0:=kq.at.1
    have a1:=kq.at.2.1
    have a2:=kq.at.2.2
    have m0:=km.at.1
    have m1:=km.at.2.1
    have m2:=km.at.2.2
    have fz:=km.frozen
    have HKM:=veil km
    have HBW:=veil hbw
    have hSS: ∀(p:Prop),p→p:=fun _ h=>h
    have hS1:=veil (And.intro a0 (And.intro a1 a2))
    have hS2:Hid (W3.drew.cell? (vA0 q)=some (.bool kx.e)∧W3.drew.cell? (vAt q 1)=some (vU6 kx.d)∧W3.drew.cell? (vAt q 2)=some (vU8 kx.l)):=⟨a0,a1,a2⟩
    have e3:(((W3.setCell (vA0 w.heap.size) (.bool kx.e)).setCell (vAt w.heap.size 1) (vU6 kx.d)).setCell (vAt w.heap.size 2) (vU8 kx.l)).heap[q]? =W3.heap[q]? :=by
     rw[Below.heap_setCell _ _ _ _ hqn,Below.heap_setCell _ _ _ _ hqn,Below.heap_setCell _ _ _ _ hqn]
    have hS3:Hid ((((W3.setCell (vA0 w.heap.size) (.bool kx.e)).setCell (vAt w.heap.size 1) (vU6 kx.d)).setCell (vAt w.heap.size 2) (vU8 kx.l)).drew.cell? (vA0 q)=some (.bool kx.e)∧(((W3.setCell (vA0 w.heap.size) (.bool kx.e)).setCell (vAt w.heap.size 1) (vU6 kx.d)).setCell (vAt w.heap.size 2) (vU8 kx.l)).drew.cell? (vAt q 1)=some (vU6 kx.d)∧(((W3.setCell (vA0 w.heap.size) (.bool kx.e)).setCell (vAt w.heap.size 1) (vU6 kx.d)).setCell (vAt w.heap.size 2) (vU8 kx.l)).drew.cell? (vAt q 2)=some (vU8 kx.l)):=
     ⟨(World.cell?_of_block e3).trans a0,(World.cell?_of_block e3).trans a1,(World.cell?_of_block e3).trans a2⟩
    clear kq km hbw hSS
    go_region_held3 (fun w'=>(w'.cell? (vA0 q)=some (.bool kx.e)∧w'.cell? (vAt q 1)=some (vU6 kx.d)∧w'.cell? (vAt q 2)=some (vU8 kx.l)))
     (first|with_reducible exact hS1.out|with_reducible exact hS2.out|assumption)
     (first|fail)
    all_goals go_wp2
    all_goals go_roundw
    case rel=>
     refine⟨j+1,HI.out,by go_num,?_,?_,?_⟩
     ·rw[hG.out,eG.out]
     ·rw[hG.out,eG.out]
      exact HKM.out.set kx
     ·exact(((HBW.out.setCell (p:=(vA0 w.heap.size)) (by simp) _).setCell (p:=(vAt w.heap.size 1)) (by simp) _).setCell (p:=(vAt w.heap.size 2)) (by simp) _).drew
    case measure=>simp[RowKit.intOf];omega
   ·have hbb:(b== -1)=false:=by grind
    have HAB:=veil (fun w'=>above_ok w' kx m)
    cases hu:up kx m with
    |true=>
     rw[hu] at HAB
     have eG:=enext.out
     rw[if_pos (.inr hu)] at eG
     replace eG:=veil eG
     go_wp2_with (first
      |(go_at_call 83;refine(HKY.out).mono ?_;rintro e w1 ⟨rfl,hb1⟩;have HB1:=veil (HB.out.trans (hb1.mono HB.out.size));have HK1:=veil (HK.out.below hb1);have m0:=HK1.out.at.1;have m1:=HK1.out.at.2.1;have m2:=HK1.out.at.2.2;have hwl:=HK1.out.lt;clear hb1)
      |(go_at_call 119;refine(HAB.out _).mono ?_;rintro e w2 ⟨rfl,hb2⟩;replace hb2:=veil hb2))
     have HW3:Hid (KBox w2 w1.heap.size kx∧KBox w2 w.heap.size m∧vBw w w2∧w1.heap.size≠w.heap.size):=⟨KBox.below (World.alloc_heap_new w1 _) hb2.out,(HK1.out.alloc _).below hb2.out,(HB1.out.alloc HB1.out.size _).trans (hb2.out.mono (by have:=HB1.out.size;simp;omega)),by omega⟩
     clear HB1 HK1 HKY HK HB hb2 m0 m1 m2
     obtain⟨W3,rfl⟩: ∃W3,W3=w2:=⟨_,rfl⟩
     generalize w1.heap.size=q at HW3⊢
     have hq3:=HW3.out
     obtain⟨kq,km,hbw,hqn⟩:=hq3
     have a0:=kq.at.1
     have a1:=kq.at.2.1
     have a2:=kq.at.2.2
     have m0:=km.at.1
     have m1:=km.at.2.1
     have m2:=km.at.2.2
     have fz:=km.frozen
     have HKM:=veil km
     have HBW:=veil hbw
     have hSS: ∀(p:Prop),p→p:=fun _ h=>h
     have hS1:=veil (And.intro a0 (And.intro a1 a2))
     have hS2:Hid (W3.drew.cell? (vA0 q)=some (.bool kx.e)∧W3.drew.cell? (vAt q 1)=some (vU6 kx.d)∧W3.drew.cell? (vAt q 2)=some (vU8 kx.l)):=⟨a0,a1,a2⟩
     have e3:(((W3.setCell (vA0 w.heap.size) (.bool kx.e)).setCell (vAt w.heap.size 1) (vU6 kx.d)).setCell (vAt w.heap.size 2) (vU8 kx.l)).heap[q]? =W3.heap[q]? :=by
      rw[Below.heap_setCell _ _ _ _ hqn,Below.heap_setCell _ _ _ _ hqn,Below.heap_setCell _ _ _ _ hqn]
     have hS3:Hid ((((W3.setCell (vA0 w.heap.size) (.bool kx.e)).setCell (vAt w.heap.size 1) (vU6 kx.d)).setCell (vAt w.heap.size 2) (vU8 kx.l)).drew.cell? (vA0 q)=some (.bool kx.e)∧(((W3.setCell (vA0 w.heap.size) (.bool kx.e)).setCell (vAt w.heap.size 1) (vU6 kx.d)).setCell (vAt w.heap.size 2) (vU8 kx.l)).drew.cell? (vAt q 1)=some (vU6 kx.d)∧(((W3.setCell (vA0 w.heap.size) (.bool kx.e)).setCell (vAt w.heap.size 1) (vU6 kx.d)).setCell (vAt w.heap.size 2) (vU8 kx.l)).drew.cell? (vAt q 2)=some (vU8 kx.l)):=
      ⟨(World.cell?_of_block e3).trans a0,(World.cell?_of_block e3).trans a1,(World.cell?_of_block e3).trans a2⟩
     clear kq km hbw hSS
     go_region_held3 (fun w'=>(w'.cell? (vA0 q)=some (.bool kx.e)∧w'.cell? (vAt q 1)=some (vU6 kx.d)∧w'.cell? (vAt q 2)=some (vU8 kx.l)))
      (first|with_reducible exact hS1.out|with_reducible exact hS2.out|assumption)
      (first|fail)
     all_goals go_wp2
     all_goals go_roundw
     case rel=>
      refine⟨j+1,HI.out,by go_num,?_,?_,?_⟩
      ·rw[hG.out,eG.out]
      ·rw[hG.out,eG.out]
       exact HKM.out.set kx
      ·exact(((HBW.out.setCell (p:=(vA0 w.heap.size)) (by simp) _).setCell (p:=(vAt w.heap.size 1)) (by simp) _).setCell (p:=(vAt w.heap.size 2)) (by simp) _).drew
     case measure=>simp[RowKit.intOf];omega
    |false=>
     rw[hu] at HAB
     have eG:=enext.out
     rw[if_neg (by grind)] at eG
     replace eG:=veil eG
     go_wp2_with (first
      |(go_at_call 83;refine(HKY.out).mono ?_;rintro e w1 ⟨rfl,hb1⟩;have HB1:=veil (HB.out.trans (hb1.mono HB.out.size));have HK1:=veil (HK.out.below hb1);have m0:=HK1.out.at.1;have m1:=HK1.out.at.2.1;have m2:=HK1.out.at.2.2;have hwl:=HK1.out.lt;clear hb1)
      |(go_at_call 119;refine(HAB.out _).mono ?_;rintro e w2 ⟨rfl,hb2⟩;replace hb2:=veil hb2))
     go_roundw
     case rel=>
      refine⟨j+1,HI.out,by go_num,?_,?_,?_⟩
      ·rw[hG.out,eG.out]
      ·rw[hG.out,eG.out]
       exact(HK1.out.alloc _).below hb2.out
      ·exact(HB1.out.alloc HB1.out.size _).trans (hb2.out.mono (by have:=HB1.out.size;simp;omega))
     case measure=>simp[RowKit.intOf];omega
  ·have hjl': ¬(j:Int)<(l.length:Int):=by omega
   obtain rfl:j=l.length:=by omega
   have HB:=veil hbe
   clear hbe hkb
   go_wp2
   go_ret
   exact⟨rfl,HB.out⟩
end
end Go.Proofs.YtnmhcgpnhlhcgaaGreatDoor.Pi
namespace Go.Proofs.YtnmhcgpnhlhcgaaGreatDoor.Pi
open Go.Proofs.YtnmhcgpnhlhcgaaGreatDoor.Ke
open Go.Lib Go.Shelf
open Go.RowKit
def renD:Ren:=⟨fun x=>if x=45 then 193 else x,fun x=>if x=0 then 0 else if x=3 then 3 else if x=4 then 4 else if x=22 then 123 else if x=23 then 3 else x,fun x=>x⟩
theorem laysD:SlLaysE.n45 Tryz.prog renD where
 mixed:=by rfl
 f45 := ⟨"slices.Delete[[]int,int]", by decide, by rfl⟩
 t0:=Tryz.underlying0
 a0:=Tryz.isAgg0
 z0:=Tryz.sizeOf0
 v0:=Tryz.zeroValue0
 t3:=Tryz.underlying3
 a3:=Tryz.isAgg3
 z3:=Tryz.sizeOf3
 v3:=Tryz.zeroValue3
 t4:=Tryz.underlying4
 a4:=Tryz.isAgg4
 z4:=Tryz.sizeOf4
 v4:=Tryz.zeroValue4
 t22:=Tryz.underlying123
 a22:=Tryz.isAgg123
 z22:=Tryz.sizeOf123
 v22:=Tryz.zeroValue123
 a23:=Tryz.isAgg3
 z23:=Tryz.sizeOf3
theorem del_ok {w:World} {base g cap p:Nat} {l:List Nat} (h:w.ownsRow base 3 1 (.slice (some (vA0 g)) l.length cap) l.length (ints l)) (hp:p<l.length):
  vCa 193 #[.slice (some (vA0 g)) l.length cap,vI6 (p:Int),vI6 ((p:Int)+1)] w fun e w'=>e= .returned (.slice (some (vA0 g)) (l.eraseIdx p).length cap)∧
   w'.ownsRow base 3 1 (.slice (some (vA0 g)) (l.eraseIdx p).length cap) (l.eraseIdx p).length (ints (l.eraseIdx p))∧Fr (fun b=>b=g) w w'∧w'.heap.size=w.heap.size:=by
 have hfz:=frozen_row h
 have hcell: ∀(j x:Nat),l[j]? =some x→w.cell? (vAt g j)=some (vI6 (x:Int)):=by
  intro j x hx
  have hj:=(List.getElem?_eq_some_iff.1 hx).1
  rw[h.cellAt j (by omega)]
  simp[ints,hx]
 have hown:=h
 rcases h.2 with ⟨e,_⟩|⟨g',cap',cur,e,h0,hg,h1,h2,h4,h5⟩
 ·simp at e
 simp at e
 obtain⟨rfl,rfl⟩:=e
 have hH:Sort.Holds (fun (t:Nat)=>Value.int .i64 (t:Int)) w g 0 l.toArray:=by
  intro j hj
  grind
 obtain⟨i0,hi,hz0,hz1,hz2⟩:=info_parts infoInt
 have C:=AnyE.slices_Delete laysD (fun (t:Nat)=>Value.int .i64 (t:Int)) (fun _=>rfl) 0 (Tryz.zeroValue3) i0 hi hz1 g 0 cap p (p+1) l.toArray w hH (by omega) (by assumption) (by omega) (by grind)
 have elen:(l.eraseIdx p).length=l.length-1:=by grind
 have ef:renD.f 45=193:=rfl
 rw[ef] at C
 refine Calls.mono (R:=_) (by simpa using C) ?_
 rintro e w' ⟨rfl,q,rfl⟩
 have eD:=(List.eraseIdx_eq_take_drop_succ l p).symm
 have hheap: ∀b,(Sort.putRow (fun (t:Nat)=>Value.int .i64 (t:Int)) (Sort.ahead w q) g 0 (l.take p++(l.drop (p+1)++[0])).toArray).heap[b]? =if g=b then some (.cells (Sort.putCells (fun (t:Nat)=>Value.int .i64 (t:Int)) 0 (l.take p++(l.drop (p+1)++[0])).toArray cur) 3 (0,0)) else w.heap[b]? :=by
  intro b
  show(w.heap.modify g _)[b]? =_
  rw[Array.getElem?_modify]
  by_cases hb:g=b
  ·subst hb
   rw[if_pos rfl,if_pos rfl,hg]
   rfl
  grind
 have hsz:(Sort.putRow (fun (t:Nat)=>Value.int .i64 (t:Int)) (Sort.ahead w q) g 0 (l.take p++(l.drop (p+1)++[0])).toArray).heap.size=w.heap.size:=by
  simp
 refine⟨by rw[elen],?_,?_,hsz⟩
 ·refine⟨by simp[ints],.inr ⟨g,cap,Sort.putCells (fun (t:Nat)=>Value.int .i64 (t:Int)) 0 (l.take p++(l.drop (p+1)++[0])).toArray cur,rfl,h0,by grind,by omega,h2,by simp[Sort.putCells,h4],?_⟩⟩
  apply List.ext_getElem?
  intro k
  rw[Nat.mul_one,List.getElem?_take]
  by_cases hk:k<(l.eraseIdx p).length
  ·rw[if_pos hk]
   have hkc:k<cur.size:=by omega
   have hkD:k<(l.take p++(l.drop (p+1)++[0])).length:=by grind
   simp only[Sort.putCells,Array.getElem?_toList,Array.getElem?_mapIdx,Array.getElem?_eq_getElem hkc,Option.map_some,ints,List.getElem?_map]
   grind
  ·rw[if_neg hk,eq_comm,List.getElem?_eq_none_iff]
   simp[ints]
   omega
 ·exact⟨rfl,rfl,rfl,by omega,fun b _ hb=>by grind⟩
end Go.Proofs.YtnmhcgpnhlhcgaaGreatDoor.Pi
namespace Go.Proofs.YtnmhcgpnhlhcgaaGreatDoor.Pi
open Go.Proofs.YtnmhcgpnhlhcgaaGreatDoor.Ke
open Go.Lib
open Go.RowKit
structure IsM (w:World) (base s:Nat) (vt vl:Value) (V:List Value) (T:List Th) (L:List Lk):Prop where
 blk:w.heap[s]? =some (.cells #[vt,vl] 159 (0,0))
 lo:base≤s
 tho:w.ownsRow base 162 4 vt T.length (tcells T)
 lko:w.ownsRow base 164 2 vl L.length (lcells ((L.map (·.h)).zip V))
 vs:V.length=L.length
 lin: ∀(j:Nat) y v,L[j]? =some y→V[j]? =some v→w.ownsRow base 3 1 v y.l.length (ints y.l)
 apart: ∀(i j:Nat) u v k,V[i]? =some u→V[j]? =some v→u.ownBlock=some k→v.ownBlock=some k→i=j
 bs:base≤w.heap.size
section
variable {w w':World} {base s:Nat} {vt vl:Value} {V:List Value} {T:List Th} {L:List Lk}
theorem IsG.m (h:IsG w base s vt vl V T L):IsM w base s vt vl V T L:=⟨h.blk,h.lo,h.tho,h.lko,h.vs,h.lin,h.apart,h.bs⟩
theorem IsM.g (h:IsM w base s vt vl V T L) (f:Fine T L):IsG w base s vt vl V T L:=⟨h.blk,h.lo,h.tho,h.lko,h.vs,h.lin,h.apart,h.bs,f⟩
theorem IsM.tb (h:IsM w base s vt vl V T L) {k:Nat} (hk:vt.ownBlock=some k): ∃c,w.heap[k]? =some (.cells c 162 (0,0)):=(ownsRow_blk h.tho hk).2.2
theorem IsM.lb (h:IsM w base s vt vl V T L) {k:Nat} (hk:vl.ownBlock=some k): ∃c,w.heap[k]? =some (.cells c 164 (0,0)):=(ownsRow_blk h.lko hk).2.2
theorem IsM.vb (h:IsM w base s vt vl V T L) {v:Value} (hv:v∈V) {k:Nat} (hk:v.ownBlock=some k): ∃c,w.heap[k]? =some (.cells c 3 (0,0)):=by
 obtain⟨j,hj⟩:=List.mem_iff_getElem?.1 hv
 have hjl:=(List.getElem?_eq_some_iff.1 hj).1
 rw[h.vs] at hjl
 exact(ownsRow_blk (h.lin j _ v (List.getElem?_eq_getElem hjl) hj) hk).2.2
theorem IsM.lt (h:IsM w base s vt vl V T L) {k:Nat} (hk:own s vt vl V k):k<w.heap.size:=by
 rcases hk with rfl|q|q|⟨v,hv,q⟩
 ·exact(Array.getElem?_eq_some_iff.1 h.blk).1
 ·grind[Pi.IsM.tb]
 ·grind[Pi.IsM.lb]
 grind[Pi.IsM.vb]
theorem IsM.kept (h:IsM w base s vt vl V T L) (h0:w.heap.size≤w'.heap.size) (h1: ∀k,own s vt vl V k→w'.heap[k]? =w.heap[k]?):IsM w' base s vt vl V T L:=
 ⟨(h1 s (.inl rfl)).trans h.blk,h.lo,ownsRow_far h.tho (fun k hk=>h1 k (.inr (.inl hk))),ownsRow_far h.lko (fun k hk=>h1 k (.inr (.inr (.inl hk)))),h.vs,
  fun j y v hy hv=>ownsRow_far (h.lin j y v hy hv) (fun k hk=>h1 k (.inr (.inr (.inr ⟨v,List.mem_of_getElem? hv,hk⟩)))),h.apart,Nat.le_trans h.bs h0⟩
theorem IsM.below (h:IsM w base s vt vl V T L) (hf:vBw w w'):IsM w' base s vt vl V T L:=h.kept hf.size (fun k hk=>hf.block k (h.lt hk))
theorem IsM.hold {g cap:Nat} (h:IsM w base s vt (.slice (some (vA0 g)) L.length cap) V T L) {m:Nat} {y:Lk} (hy:L[m]? =some y) (a:Int):
  IsM (w.setCell (vAt g (m*2)) (vI6 a)) base s vt (.slice (some (vA0 g)) L.length cap) V T (L.set m ⟨a,y.l⟩):=by
 have hm:=(List.getElem?_eq_some_iff.1 hy).1
 obtain⟨v,hv⟩: ∃v,V[m]? =some v:=⟨_,List.getElem?_eq_getElem (by rw[h.vs];exact hm)⟩
 obtain⟨c,hc⟩:=h.lb (k:=g) rfl
 have hz:((L.map (·.h)).zip V)[m]? =some (y.h,v):=by grind
 have e:((L.set m ⟨a,y.l⟩).map (·.h)).zip V=((L.map (·.h)).zip V).set m (a,v):=by grind[List.map_set,Pi.zip_set]
 refine⟨?_,h.lo,ownsRow_far h.tho ?_,?_,by simpa using h.vs,?_,h.apart,by simpa using h.bs⟩
 ·rw[Below.heap_setCell _ _ _ _ (fun q=>by have q':s=g:=q;rw[←q',h.blk] at hc;grind)]
  exact h.blk
 ·grind[Pi.IsM.tb,RowKit.Below.heap_setCell]
 ·rw[e,lcells_hold _ m (y.h,v) a hz,List.length_set]
  grind[ownsRow_set,Pi.IsM.lko]
 ·intro j x u hx hu
  have hx': ∃x',L[j]? =some x'∧x'.l=x.l:=by
   grind
  obtain⟨x',e1,e2⟩:=hx'
  rw[←e2]
  refine ownsRow_far (h.lin j x' u e1 hu) ?_
  intro k hk
  obtain⟨c',hc'⟩:=h.vb (List.mem_of_getElem? hu) hk
  grind[RowKit.Below.heap_setCell]
theorem tcells_waits: ∀(T:List Th) (i:Nat) (x:Th) (u:Int),T[i]? =some x→tcells (T.set i ⟨x.k,u⟩)=(tcells T).set (i*4+3) (vI6 u)
 |[],i,x,u,h=>by simp at h
 |y::T,0,x,u,h=>by
  exact mK
 |y::T,i+1,x,u,h=>by
  have:=tcells_waits T i x u (by grind)
  rw[List.set_cons_succ,tcells_cons,this,tcells_cons,show(i+1)*4+3=(i*4+3)+4 by omega]
  rfl
theorem IsM.waits {g cap:Nat} (h:IsM w base s (.slice (some (vA0 g)) T.length cap) vl V T L) {i:Nat} {x:Th} (hx:T[i]? =some x) (u:Int):
  IsM (w.setCell (vAt g (i*4+3)) (vI6 u)) base s (.slice (some (vA0 g)) T.length cap) vl V (T.set i ⟨x.k,u⟩) L:=by
 have hi:=(List.getElem?_eq_some_iff.1 hx).1
 obtain⟨c,hc⟩:=h.tb (k:=g) rfl
 refine⟨?_,h.lo,?_,ownsRow_far h.lko ?_,h.vs,?_,h.apart,by simpa using h.bs⟩
 ·rw[Below.heap_setCell _ _ _ _ (fun q=>by have q':s=g:=q;rw[←q',h.blk] at hc;grind)]
  exact h.blk
 ·grind[Pi.tcells_waits,ownsRow_set,Pi.IsM.tho]
 ·grind[Pi.IsM.lb,RowKit.Below.heap_setCell]
 ·intro j y v hy hv
  refine ownsRow_far (h.lin j y v hy hv) (fun k hk=> ?_)
  obtain⟨c',hc'⟩:=h.vb (List.mem_of_getElem? hv) hk
  grind[RowKit.Below.heap_setCell]
theorem lcells_line: ∀(Z:List (Int×Value)) (i:Nat) (z:Int×Value) (v:Value),Z[i]? =some z→lcells (Z.set i (z.1,v))=(lcells Z).set (i*2+1) v
 |[],i,z,a,h=>by simp at h
 |y::Z,0,z,a,h=>by
  exact mK
 |y::Z,i+1,z,a,h=>by
  have:=lcells_line Z i z a (by grind)
  grind[Pi.lcells_cons]
theorem zip_set2 {α β:Type}: ∀(A:List α) (B:List β) (i:Nat) (a:α) (b:β),A[i]? =some a→A.zip (B.set i b)=(A.zip B).set i (a,b)
 |[],B,i,a,b,h=>by simp
 |x::A,[],i,a,b,h=>by simp
 |x::A,y::B,0,a,b,h=>by
  simp_all
 |x::A,y::B,i+1,a,b,h=>by
  have:=zip_set2 A B i a b (by grind)
  simp_all
theorem IsM.lined {g cap:Nat} (h:IsM w base s vt (.slice (some (vA0 g)) L.length cap) V T L) {m:Nat} {y:Lk} {v v':Value} (hy:L[m]? =some y) (hv:V[m]? =some v) {l':List Nat}
  (hsz:w.heap.size≤w'.heap.size) (hk: ∀k,k<w.heap.size→v.ownBlock≠some k→w'.heap[k]? =w.heap[k]?) (hown:w'.ownsRow base 3 1 v' l'.length (ints l')) (hat: ∀k,v'.ownBlock=some k→v.ownBlock=some k∨w.heap.size≤k):
  IsM (w'.setCell (vAt g (m*2+1)) v') base s vt (.slice (some (vA0 g)) L.length cap) (V.set m v') T (L.set m ⟨y.h,l'⟩):=by
 have hm:=(List.getElem?_eq_some_iff.1 hy).1
 have hvm:=(List.getElem?_eq_some_iff.1 hv).1
 obtain⟨c,hc⟩:=h.lb (k:=g) rfl
 have hgv:v.ownBlock≠some g:=fun q=>by obtain⟨c',hc'⟩:=h.vb (List.mem_of_getElem? hv) q;grind
 have hc2:=(hk g (Array.getElem?_eq_some_iff.1 hc).1 hgv).trans hc
 have hfar: ∀k,own s vt (.slice (some (vA0 g)) L.length cap) V k→v.ownBlock≠some k→k≠g→(w'.setCell (vAt g (m*2+1)) v').heap[k]? =w.heap[k]? :=fun k ho hn hkg=>(Below.heap_setCell _ _ _ _ hkg).trans (hk k (h.lt ho) hn)
 have hz:((L.map (·.h)).zip V)[m]? =some (y.h,v):=by grind
 have e:((L.set m ⟨y.h,l'⟩).map (·.h)).zip (V.set m v')=((L.map (·.h)).zip V).set m (y.h,v'):=by
  have e0:(L.set m ⟨y.h,l'⟩).map (·.h)=L.map (·.h):=by
   rw[List.map_set]
   apply List.ext_getElem?
   grind
  grind[Pi.zip_set2]
 refine⟨?_,h.lo,ownsRow_far h.tho ?_,?_,by simpa using h.vs,?_,?_,by simpa using Nat.le_trans h.bs hsz⟩
 ·refine(hfar s (.inl rfl) (fun q=> ?_) (fun q=> ?_)).trans h.blk
  ·obtain⟨c',hc'⟩:=h.vb (List.mem_of_getElem? hv) q;rw[h.blk] at hc';grind
  ·rw[←q,h.blk] at hc;grind
 ·intro k hkk
  obtain⟨c',hc'⟩:=h.tb hkk
  refine hfar k (.inr (.inl hkk)) (fun q=> ?_) (fun q=> ?_)
  ·obtain⟨c2,hc2⟩:=h.vb (List.mem_of_getElem? hv) q;grind
  grind
 ·rw[e,lcells_line _ m (y.h,v) v' hz,List.length_set]
  exact ownsRow_set (ownsRow_far h.lko (fun k hkk=>by simp[Value.ownBlock] at hkk;grind)) (m*2+1) (by omega) _
 ·intro j z u hz' hu
  have hne: ∀k,u.ownBlock=some k→w'.heap[k]? =w.heap[k]? ∨u=v'→k≠g:=by
   intro k hku hor q
   subst q
   rcases getSet hu with ⟨rfl,rfl⟩|⟨_,q2⟩
   ·grind
   ·obtain⟨c',hc'⟩:=h.vb (List.mem_of_getElem? q2) hku
    grind
  rcases getSet hz' with ⟨rfl,rfl⟩|⟨q1,hz2⟩
  ·grind[ownsRow_far,RowKit.Below.heap_setCell]
  ·rcases getSet hu with ⟨q2,_⟩|⟨q2,hu2⟩
   ·exact mK
   ·refine ownsRow_far (h.lin j z u hz2 hu2) (fun k hkk=> ?_)
    have hvk:v.ownBlock≠some k:=fun q=>q1 (h.apart m j v u k hv hu2 q hkk)
    have e1:=hk k (h.lt (.inr (.inr (.inr ⟨u,List.mem_of_getElem? hu2,hkk⟩)))) hvk
    grind[RowKit.Below.heap_setCell]
 ·intro i j u1 u2 k h1 h2 hk1 hk2
  rcases getSet h1 with ⟨rfl,rfl⟩|⟨q1,h1'⟩
  ·rcases getSet h2 with ⟨q,_⟩|⟨q2,h2'⟩
   ·exact q
   ·exfalso
    rcases hat k hk1 with q|q
    ·grind[Pi.IsM.apart]
    ·have:=h.lt (.inr (.inr (.inr ⟨u2,List.mem_of_getElem? h2',hk2⟩)))
     omega
  ·rcases getSet h2 with ⟨rfl,rfl⟩|⟨q2,h2'⟩
   ·exfalso
    rcases hat k hk2 with q|q
    ·grind[Pi.IsM.apart]
    ·have:=h.lt (.inr (.inr (.inr ⟨u1,List.mem_of_getElem? h1',hk1⟩)))
     omega
   grind[Pi.IsM.apart]
end
end Go.Proofs.YtnmhcgpnhlhcgaaGreatDoor.Pi
namespace Go.Proofs.YtnmhcgpnhlhcgaaGreatDoor.Pi
open Go.Proofs.YtnmhcgpnhlhcgaaGreatDoor.Ke
open Go.Lib Go.Shelf
open Go.RowKit
def Moved (w w':World) (base s:Nat) (vt vl:Value) (V:List Value) (T:List Th) (L:List Lk):Prop:=
 ∃V',IsG w' base s vt vl V' T L∧Fr (own s vt vl V) w w'∧ ∀k,own s vt vl V' k→own s vt vl V k∨w.heap.size≤k
section
variable {w:World} {base s:Nat} {vt vl:Value} {V:List Value} {T:List Th} {L:List Lk}
theorem ints_snoc (l:List Nat) (i:Nat):ints l++[Value.int .i64 (i:Int)]=ints (l++[i]):=by simp[ints]
theorem IsM.form (h:IsM w base s vt vl V T L) (ht:1≤T.length): ∃g cap,vt= .slice (some (vA0 g)) T.length cap∧w.cell? (vA0 s)=some vt∧w.cell? (vAt s 1)=some vl∧(∀k,w.frozen? (vAt g k)=false)∧
  (∀j x,T[j]? =some x→w.cell? (vAt g (j*4))=some (.bool x.k.e)∧w.cell? (vAt g (j*4+1))=some (vU6 x.k.d)∧w.cell? (vAt g (j*4+2))=some (vU8 x.k.l)∧w.cell? (vAt g (j*4+3))=some (vI6 x.u)):=by
 have hown:=h.tho
 rcases h.tho.2 with ⟨e,e0⟩|⟨g,cap,cur,e,h0,hg,h1,h2,_⟩
 ·omega
 ·subst e
  refine⟨g,cap,rfl,by unfold World.cell?;simp[h.blk],by unfold World.cell?;simp[h.blk],frozen_row hown,fun j x hj=> ?_⟩
  have hjl:=(List.getElem?_eq_some_iff.1 hj).1
  rw[hown.cellAt (j*4) (by omega),hown.cellAt (j*4+1) (by omega),hown.cellAt (j*4+2) (by omega),hown.cellAt (j*4+3) (by omega)]
  exact tcells_at T j x hj
theorem wait_mem {w1 w2:World} {g cap gt ct i j:Nat} {x:Th} {y:Lk} {v v':Value} {tmp:Obj} (hb:vBw w w1) (h0:IsG w base s (.slice (some (vA0 gt)) T.length ct) (.slice (some (vA0 g)) L.length cap) V T L) (hx:T[i]? =some x) (hy:L[j]? =some y) (hv:V[j]? =some v)
  (hown:w2.ownsRow base 3 1 v' (y.l.length+1) (ints y.l++[vI6 (i:Int)])) (hgrow:(w1.alloc tmp).grownBy w2 v.ownBlock) (hat:v'.ownBlock=v.ownBlock∨v'.ownBlock=some (w1.alloc tmp).heap.size) (f:Fine (T.set i ⟨x.k,(j:Int)⟩) (L.set j ⟨y.h,y.l++[i]⟩)):
  w2.cell? (vAt g (j*2+1))=some v∧w2.frozen? (vAt g (j*2+1))=false∧
  (w2.setCell (vAt g (j*2+1)) v').cell? (vA0 s)=some (.slice (some (vA0 gt)) T.length ct)∧(w2.setCell (vAt g (j*2+1)) v').cell? (vAt gt (i*4+3))=some (vI6 x.u)∧(w2.setCell (vAt g (j*2+1)) v').frozen? (vAt gt (i*4+3))=false∧
  Moved w ((w2.setCell (vAt g (j*2+1)) v').setCell (vAt gt (i*4+3)) (vI6 (j:Int))) base s (.slice (some (vA0 gt)) T.length ct) (.slice (some (vA0 g)) L.length cap) V (T.set i ⟨x.k,(j:Int)⟩) (L.set j ⟨y.h,y.l++[i]⟩):=by
 have h1:=h0.below hb
 have hm:=h1.m
 have hj:=(List.getElem?_eq_some_iff.1 hy).1
 rw[ints_snoc,show y.l.length+1=(y.l++[i]).length by simp] at hown
 have hkk:=fun k (hk:k<w1.heap.size) (hn:v.ownBlock≠some k)=>(hgrow.block k (by simp;omega) (by grind)).trans (Below.heap_alloc _ _ _ hk)
 have hsz:w1.heap.size≤w2.heap.size:=by have:=hgrow.size;simp at this;omega
 have hat': ∀k,v'.ownBlock=some k→v.ownBlock=some k∨w1.heap.size≤k:=by
  intro k hk
  rcases hat with q|q
  ·grind
  ·rw[q] at hk
   simp at hk
   omega
 obtain⟨c,hc⟩:=hm.lb (k:=g) rfl
 have hgv:v.ownBlock≠some g:=fun q=>by obtain⟨c',hc'⟩:=hm.vb (List.mem_of_getElem? hv) q;grind
 have hgl:=(Array.getElem?_eq_some_iff.1 hc).1
 have hg2:=hkk g hgl hgv
 obtain⟨g',cap',e,_,_,_,_,hfz,hce⟩:=h1.lform (by omega)
 simp at e
 obtain⟨rfl,rfl⟩:=e
 have hm3:=hm.lined hy hv hsz hkk hown hat'
 have hm4:=hm3.waits hx (j:Int)
 obtain⟨gt',ct',e,d0,_,dfz,dce⟩:=hm3.form h0.f.t1
 simp at e
 obtain⟨rfl,rfl⟩:=e
 refine⟨(World.cell?_of_block hg2).trans (by grind),?_,d0,(by grind),dfz _,V.set j v',hm4.g f,?_,?_⟩
 ·have:=hfz (j*2+1)
  unfold World.frozen? at this⊢
  grind
 ·have hf1:Fr (own s (.slice (some (vA0 gt)) T.length ct) (.slice (some (vA0 g)) L.length cap) V) w w2:=by
   refine(Fr.of_below' hb).trans ⟨hgrow.os,hgrow.tape,hgrow.output,hsz,fun k hk hn=>hkk k hk (fun q=>hn (.inr (.inr (.inr ⟨v,List.mem_of_getElem? hv,q⟩))))⟩
  exact(hf1.setCell (a:=(vAt g (j*2+1))) (.inr (.inr (.inl rfl))) _).setCell (a:=(vAt gt (i*4+3))) (.inr (.inl rfl)) _
 ·rintro k (q|q|q|⟨u,hu,q⟩)
  ·exact .inl (.inl q)
  ·exact .inl (.inr (.inl q))
  ·exact .inl (.inr (.inr (.inl q)))
  ·rcases List.mem_or_eq_of_mem_set hu with r|rfl
   ·exact .inl (.inr (.inr (.inr ⟨u,r,q⟩)))
   ·rcases hat' k q with r|r
    ·exact .inl (.inr (.inr (.inr ⟨v,List.mem_of_getElem? hv,r⟩)))
    ·exact .inr (Nat.le_trans hb.size r)
theorem lock_wait (h:IsG w base s vt vl V T L) (i j:Nat) (he:mayE T L i j=0) (x:Th) (hx:T[i]? =some x) (y:Lk) (hy:L[j]? =some y) (k:Nat) (ho:y.h=(k:Int)) (hk:k≠i) (hl: ¬Leads L k i):vCa 190 #[vPt s,vI6 (i:Int),vI6 (j:Int)] w fun e w'=>e=vRt #[.bool false,vI6 0]∧
  Moved w w' base s vt vl V (T.set i ⟨x.k,(j:Int)⟩) (L.set j ⟨y.h,y.l++[i]⟩):=by
 have HM:=veil (may_ok h (i:Int) (j:Int))
 have hxu:x.u= -1:=by
  obtain⟨i',j',x',y',e1,e2,_,_,e3,e4,_⟩:=may_yes he
  grind
 have HFi:=veil (h.f.wait hx hxu hy ho hl)
 obtain⟨b,hb,hc⟩:=leads_ok h j i y hy k ho
 obtain rfl:b=false:=by
  grind
 have HL:=veil hc
 clear hb hc hl
 rw[he] at HM
 have hi:=(List.getElem?_eq_some_iff.1 hx).1
 have hi':(i:Int)<(T.length:Int):=by omega
 have hj:=(List.getElem?_eq_some_iff.1 hy).1
 have hj':(j:Int)<(L.length:Int):=by omega
 obtain⟨v,hv⟩:=h.line hj
 have hline:=h.lin j y v hy hv
 have hll:y.l.length≤1024:=by
  have hok:=h.f.lk y (List.mem_of_getElem? hy)
  have:=h.f.t2
  have hnd:=hok.2.2.2.1
  have hsub:y.l ⊆ List.range T.length:=fun t ht=>List.mem_range.2 (hok.2.2.1 t ht)
  have:=hnd.length_le_of_subset hsub
  grind
 obtain⟨va,vc,rfl,hvc1,hvc2⟩:=form_of hline
 have HG:=veil h
 obtain⟨g,cap,rfl,hc1,hc2,hg,hgs,_,hc⟩:=h.lform (by omega)
 obtain⟨gt,ct,rfl,ht1,ht2,_⟩:=h.tform
 obtain⟨y0,y1⟩:=hc j y _ hy hv
 rw[ho] at y0
 have c1:=h.c1
 have hk1:((k:Int)==(i:Int))=false:=by grind
 have hk2:((k:Int)== -1)=false:=by simp
 have hk3: ¬(k:Int)=(i:Int):=by omega
 have hk4: ¬(k:Int)= -1:=by omega
 have hk5:=hk
 obtain⟨i0,hi0,hz0,hz1,hz2⟩:=info_parts infoInt
 have HCe:=veil fun w1 (hb:vBw w w1)=>(hb.cell (p:=(vAt g (j*2+1))) hg).trans y1
 have HXX:=veil hx
 have HYY:=veil hy
 have HVV:=veil hv
 have HHO:=veil ho
 clear hc he h hx hy ho hline hxu hv
 refine ge ?_
 go_wp2_with (first
  |(go_at_call 191;refine cS HM.out ?_)
  |(go_at_call 219;refine(HL.out).mono ?_;rintro e w1 ⟨rfl,hbw⟩;have z1:=HCe.out w1 hbw;have HG1:=veil (HG.out.below hbw);have HO1:=veil (HG1.out.lin j y _ HYY.out HVV.out);have hz1s:=HG1.out.bs;replace hbw:=veil hbw)
  |(at_builtin;refine wpList_append_own_at _ rfl _ _ 123 rfl base 3 i0 (vI6 0) 1 8 Tryz.underlying123 hi0 hz0 hz1 hz2 rfl (by decide) _ _ _ rfl (HO1.out.alloc _) (vA0 w1.heap.size) 1 1 [vI6 (i:Int)] rfl rfl (cell_one_new _ _ _) (by simp[Value.oneCell']) (by unfold maxLen;omega) (by omega) (by simp;omega) ?_;intro v' w2 hown hgrow _ hat;obtain⟨g',cap',rfl⟩:=ownsRow_succ hown;obtain⟨p1,p2,p3,p4,p5,p6⟩:=wait_mem hbw.out HG.out HXX.out HYY.out HVV.out hown hgrow hat HFi.out;replace p6:=veil p6;clear hown hgrow hat))
 simp[bodyPost,results,Tryz.results190,go_sem]
 exact p6.out
end
theorem keyOf_kf {T:List Th} {L:List Lk} (h:Acyc L) (x:Nat): ∃N,∀n,N≤n→keyOf T L x=kf T L n x:=by
 obtain⟨r,hb,hr⟩:=h.choose_spec
 refine⟨h.choose,fun n hn=> ?_⟩
 unfold keyOf
 simp only[h,dite_true]
 exact kf_stays hr h.choose x (hb x) n (by grind)
theorem kf_same {T:List Th} {L L':List Lk} {t:Nat} (hb: ∀x,x≠t→behind L' x=behind L x) (hl: ∀y∈L,t ∉ y.l): ∀(n x:Nat),x≠t→kf T L' n x=kf T L n x
 |0,x,_=>rfl
 |n+1,x,hx=>by
  show(behind L' x).foldl _ _=(behind L x).foldl _ _
  rw[hb x hx]
  refine foldl_same _ _ (fun y hy b=> ?_)
  have hne:y≠t:=by
   rintro rfl
   obtain⟨z,hz,hin,_⟩:=mem_behind.1 hy
   grind
  rw[kf_same hb hl n y hne]
theorem keyOf_same {T:List Th} {L L':List Lk} {t:Nat} (h:Acyc L) (h':Acyc L') (hb: ∀x,x≠t→behind L' x=behind L x) (hl: ∀y∈L,t ∉ y.l) {x:Nat} (hx:x≠t):keyOf T L' x=keyOf T L x:=by
 obtain⟨N,hN⟩:=keyOf_kf (T:=T) h x
 obtain⟨M,hM⟩:=keyOf_kf (T:=T) h' x
 rw[hN (N+M) (by omega),hM (N+M) (by omega)]
 exact kf_same hb hl _ x hx
theorem behind_set {L:List Lk} {j:Nat} {y:Lk} (hy:L[j]? =some y) (a:Int) {x:Nat} (h1:y.h≠(x:Int)) (h2:a≠(x:Int)):behind (L.set j ⟨a,y.l⟩) x=behind L x:=by
 have hj:=(List.getElem?_eq_some_iff.1 hy).1
 have e:L=L.take j++y::L.drop (j+1):=by
  rw[←(List.getElem?_eq_some_iff.1 hy).2]
  simp
 have e':L.set j ⟨a,y.l⟩=L.take j++⟨a,y.l⟩::L.drop (j+1):=by grind
 grind[Pi.behind]
section
variable {w:World} {base s:Nat} {vt vl:Value} {V:List Value} {T:List Th} {L:List Lk}
theorem Fine.freed (f:Fine T L) {j t:Nat} {x:Th} {y:Lk} (hx:T[t]? =some x) (hu:x.u= -1) (hy:L[j]? =some y) (ho:y.h=(t:Int)):
  Vf T (L.set j ⟨-1,y.l⟩)∧ ∀z∈y.l,keyOf T (L.set j ⟨-1,y.l⟩) z=keyOf T L z:=by
 have hno: ∀z∈L,t ∉ z.l:=by
  intro z hz q
  obtain⟨m,hm⟩:=List.mem_iff_getElem?.1 hz
  have:=(f.wt t x hx m z hm).1 q
  omega
 have hac:Acyc (L.set j ⟨-1,y.l⟩):=by
  refine f.ac.less ?_
  rintro a b ⟨z,hz,ha,hb⟩
  rcases List.mem_or_eq_of_mem_set hz with q|rfl
  ·exact⟨z,q,ha,hb⟩
  ·have:(-1:Int)=(b:Int):=hb
   omega
 refine⟨⟨hac,?_,by simpa using f.l2,f.t2⟩,?_⟩
 ·intro z hz
  rcases List.mem_or_eq_of_mem_set hz with q|rfl
  ·exact(f.lk z q).2.2.1
  ·exact(f.lk y (List.mem_of_getElem? hy)).2.2.1
 ·intro z hz
  refine keyOf_same f.ac hac (fun q hq=>behind_set hy (-1) (by omega) (by omega)) hno ?_
  grind
theorem IsM.vw (h:IsM w base s vt vl V T L) (ht:1≤T.length): ∃gt ct a cap,vt= .slice (some (vA0 gt)) T.length ct∧vl= .slice a L.length cap∧Vw w.heap.size w s gt ct a cap (lineAt V) T L:=by
 obtain⟨gt,ct,e,c0,c1,_,hce⟩:=h.form ht
 obtain⟨a,cap,e',l1,l2⟩:=form_of h.lko
 have hb:=form_of h.tho
 obtain⟨_,_,et,t1,t2⟩:=hb
 rw[e] at et
 simp at et
 obtain⟨_,rfl⟩:=et
 refine⟨gt,ct,a,cap,e,e',h.lt (.inl rfl),h.lt (.inr (.inl (by rw[e];rfl))),fun g eg=>h.lt (.inr (.inr (.inl (by rw[e',eg];rfl)))),⟨by grind,⟨t1,t2⟩,hce⟩,by grind,⟨l1,l2⟩,fun j y hy=> ?_⟩
 have hj:=(List.getElem?_eq_some_iff.1 hy).1
 obtain⟨v,hv⟩: ∃v,V[j]? =some v:=⟨_,List.getElem?_eq_getElem (by rw[h.vs];exact hj)⟩
 have hown:=h.lin j y v hy hv
 obtain⟨va,vc,rfl,m1,m2⟩:=form_of hown
 have el:lineAt V j=(va,vc):=by unfold lineAt;rw[hv]
 rw[el]
 have hz:((L.map (·.h)).zip V)[j]? =some (y.h,.slice va y.l.length vc):=by grind
 have hlc:=lcells_at _ j _ hz
 have hlko:=h.lko
 rcases h.lko.2 with ⟨_,e0⟩|⟨g,cap',cur,e3,_⟩
 ·omega
 ·rw[e'] at e3
  simp at e3
  obtain⟨rfl,rfl⟩:=e3
  rw[e'] at hlko
  refine⟨g,rfl,?_,?_,m1,m2,fun i x hi=> ?_⟩
  ·grind[World.ownsRow.cellAt]
  ·grind[World.ownsRow.cellAt]
  ·have hil:=(List.getElem?_eq_some_iff.1 hi).1
   rcases hown.2 with ⟨_,e0⟩|⟨gg,vc',cur',e4,_,hgg,_⟩
   ·omega
   ·simp at e4
    obtain⟨rfl,rfl⟩:=e4
    refine⟨gg,rfl,(Array.getElem?_eq_some_iff.1 hgg).1,?_⟩
    rw[hown.cellAt i (by omega)]
    simp[ints,hi]
end
theorem foreTo_some (g:Nat→K) (l:List Nat): ∀n,n≤l.length→0<n→ ∃p:Nat,p<n∧(foreTo g l n).1=(p:Int)∧(foreTo g l n).2=g (l[p]?.getD 0)
 |0,_,h=>by omega
 |n+1,hn,_=>by
  rw[foreTo]
  by_cases hc:(foreTo g l n).1= -1∨up (g (l[n]?.getD 0)) (foreTo g l n).2=true
  ·grind
  ·rw[if_neg hc]
   cases n with
   |zero=>exact absurd (.inl rfl) hc
   |succ n=>
    obtain⟨p,hp,e⟩:=foreTo_some g l (n+1) (by omega) (by omega)
    grind
theorem foreTo_congr {g g':Nat→K} {l:List Nat} (h: ∀x∈l,g x=g' x): ∀n,n≤l.length→foreTo g l n=foreTo g' l n
 |0,_=>rfl
 |n+1,hn=>by
  have e:g (l[n]?.getD 0)=g' (l[n]?.getD 0):=by
   grind
  rw[foreTo,foreTo,foreTo_congr h n (by omega),e]
section
variable {w:World} {base s:Nat} {vt vl:Value} {V:List Value} {T:List Th} {L:List Lk}
theorem IsM.lcell {g n cap:Nat} (h:IsM w base s vt (.slice (some (vA0 g)) n cap) V T L) (hn:n=L.length) {j:Nat} {y:Lk} {v:Value} (hy:L[j]? =some y) (hv:V[j]? =some v):
  w.cell? (vAt g (j*2))=some (vI6 y.h)∧w.cell? (vAt g (j*2+1))=some v∧ ∀k,w.frozen? (vAt g k)=false:=by
 subst hn
 have hj:=(List.getElem?_eq_some_iff.1 hy).1
 have hz:((L.map (·.h)).zip V)[j]? =some (y.h,v):=by grind
 have hlc:=lcells_at _ j _ hz
 have hlko:=h.lko
 grind[World.ownsRow.cellAt,frozen_row]
theorem unlock_other (h:IsG w base s vt vl V T L) (i j:Nat) (he:mayE T L i j=0) (y:Lk) (hy:L[j]? =some y) (ho:y.h≠(i:Int)):vS 165 #[vPt s,vI6 (i:Int),vI6 (j:Int)] w (.tuple #[vI6 (-1),vI6 9]):=by
 have HM:=veil (may_ok h (i:Int) (j:Int))
 rw[he] at HM
 have hj:=(List.getElem?_eq_some_iff.1 hy).1
 have hj':(j:Int)<(L.length:Int):=by omega
 obtain⟨v,hv⟩:=h.line hj
 obtain⟨g,cap,rfl,hc1,hc2,hg,hgs,_,hc⟩:=h.lform (by omega)
 obtain⟨y0,y1⟩:=hc j y v hy hv
 have c1:=h.c1
 generalize y.h=z at y0 ho
 clear h hc he
 refine ge ?_
 go_wp2_with (go_at_call 191;refine cS HM.out ?_)
 simp[bodyPost,results,Tryz.results165,go_sem]
theorem fore_freed {g cap:Nat} (h:IsG w base s vt (.slice (some (vA0 g)) L.length cap) V T L) {i j:Nat} {x:Th} {y:Lk} {va:Option Addr} {vc:Nat} (hx:T[i]? =some x) (hu:x.u= -1) (hy:L[j]? =some y) (ho:y.h=(i:Int)) (hv:V[j]? =some (.slice va y.l.length vc)):
  vQ 192 #[vPt s,.slice va y.l.length vc] (w.setCell (vAt g (j*2)) (vI6 (-1))) (vI6 (foreTo (keyOf T L) y.l y.l.length).1):=by
 have hm:=h.m.hold hy (-1)
 have hj:=(List.getElem?_eq_some_iff.1 hy).1
 obtain⟨hvf,hks⟩:=h.f.freed hx hu hy ho
 obtain⟨gt,ct,a,cap',_,e,hvw⟩:=hm.vw h.f.t1
 have hy1:(L.set j ⟨-1,y.l⟩)[j]? =some ⟨-1,y.l⟩:=by simp[hj]
 obtain⟨g',e1,_,y1,l1,l2,hce⟩:=hvw.ce j _ hy1
 have el:lineAt V j=(va,vc):=by unfold lineAt;rw[hv]
 rw[el] at l1 l2 hce
 have C:=fore_v hvw hvf lzr y.l va vc (fun z hz=>(h.f.lk y (List.mem_of_getElem? hy)).2.2.1 z hz) l1 l2 hce
 rw[foreTo_congr (g':=keyOf T L) hks y.l.length lzr] at C
 exact C
theorem unlock_free (h:IsG w base s vt vl V T L) (i j:Nat) (he:mayE T L i j=0) (y:Lk) (hy:L[j]? =some y) (ho:y.h=(i:Int)) (hl:y.l=[]):vCa 165 #[vPt s,vI6 (i:Int),vI6 (j:Int)] w fun e w'=>e=vRt #[vI6 (-1),vI6 0]∧Moved w w' base s vt vl V T (L.set j ⟨-1,y.l⟩):=by
 have HM:=veil (may_ok h (i:Int) (j:Int))
 obtain⟨i',j',x,y',e1,e2,hi,hj,hx,hu,hy'⟩:=may_yes he
 obtain rfl:i=i':=by omega
 obtain rfl:j=j':=by omega
 rw[he] at HM
 have hj':(j:Int)<(L.length:Int):=by omega
 obtain⟨v,hv⟩:=h.line hj
 have hline:=h.lin j y v hy hv
 obtain⟨va,vc,rfl,hvc1,hvc2⟩:=form_of hline
 obtain⟨g,cap,rfl,hc1,hc2,hg,hgs,_,_⟩:=h.lform (by omega)
 have HF:=veil (fore_freed h hx hu hy ho hv)
 have hl0:y.l.length=0:=by grind
 have ef:(foreTo (keyOf T L) y.l y.l.length).1= -1:=by rw[hl0];rfl
 rw[ef] at HF
 obtain⟨y0,y1,fz⟩:=h.m.lcell rfl hy hv
 rw[ho] at y0
 have c1:=h.c1
 have hbase:=h.hold hy (-1) (h.f.give hy hl)
 have HB:=veil hbase
 have HN:=veil (show L.length=(L.set j ⟨-1,y.l⟩).length by simp)
 have HY1:=veil (show(L.set j ⟨-1,y.l⟩)[j]? =some ⟨-1,y.l⟩ by simp[hj])
 have HV:=veil hv
 clear h hbase hline hy hy' hx he hv
 clear hl0 hl ef
 generalize y.l.length=vn at y1 HF HV hvc1
 refine ge ?_
 go_wp2_with (first
  |(go_at_call 191;refine cS HM.out ?_)
  |(go_at_call 192;refine(HF.out).mono ?_;rintro e w1 ⟨rfl,hb⟩;have z0:=((HB.out.below hb).m.lcell HN.out HY1.out HV.out).1;replace hb:=veil hb))
 simp[bodyPost,results,Tryz.results165,go_sem]
 refine⟨V,HB.out.below hb.out,?_,fun k q=> .inl q⟩
 refine Fr.trans ((Fr.refl _ w).setCell (a:=(vAt g (j*2))) (.inr (.inr (.inl rfl))) _) (Fr.of_below' hb.out)
theorem next_mem {g cap gt ct i j p q gg vc:Nat} {x z:Th} {y:Lk} (h:IsG w base s (.slice (some (vA0 gt)) T.length ct) (.slice (some (vA0 g)) L.length cap) V T L) (hy:L[j]? =some y) (hv:V[j]? =some (.slice (some (vA0 gg)) y.l.length vc)) (hq:y.l[p]? =some q) (hz:T[q]? =some z)
  {w2:World} (hb:Below (w.setCell (vAt g (j*2)) (vI6 (-1))).heap.size (w.setCell (vAt g (j*2)) (vI6 (-1))) w2):
  (w2.cell? (vAt g (j*2))=some (vI6 (-1))∧w2.cell? (vAt g (j*2+1))=some (.slice (some (vA0 gg)) y.l.length vc)∧w2.cell? (vAt gg p)=some (vI6 (q:Int))∧(∀k,w2.frozen? (vAt g k)=false))∧
  vCa 193 #[.slice (some (vA0 gg)) y.l.length vc,vI6 (p:Int),vI6 ((p:Int)+1)] (w2.setCell (vAt g (j*2)) (vI6 (q:Int))) fun e w4=>e= .returned (.slice (some (vA0 gg)) (y.l.eraseIdx p).length vc)∧
   (w4.cell? (vAt g (j*2+1))=some (.slice (some (vA0 gg)) y.l.length vc)∧(∀k,w4.frozen? (vAt g k)=false))∧
   ((w4.setCell (vAt g (j*2+1)) (.slice (some (vA0 gg)) (y.l.eraseIdx p).length vc)).cell? (vA0 s)=some (.slice (some (vA0 gt)) T.length ct)∧
    (w4.setCell (vAt g (j*2+1)) (.slice (some (vA0 gg)) (y.l.eraseIdx p).length vc)).cell? (vAt g (j*2))=some (vI6 (q:Int))∧
    (w4.setCell (vAt g (j*2+1)) (.slice (some (vA0 gg)) (y.l.eraseIdx p).length vc)).cell? (vAt gt (q*4+3))=some (vI6 z.u)∧
    (w4.setCell (vAt g (j*2+1)) (.slice (some (vA0 gg)) (y.l.eraseIdx p).length vc)).frozen? (vAt gt (q*4+3))=false)∧
   ((w4.setCell (vAt g (j*2+1)) (.slice (some (vA0 gg)) (y.l.eraseIdx p).length vc)).setCell (vAt gt (q*4+3)) (vI6 (-1))).cell? (vAt g (j*2))=some (vI6 (q:Int))∧
   Moved w ((w4.setCell (vAt g (j*2+1)) (.slice (some (vA0 gg)) (y.l.eraseIdx p).length vc)).setCell (vAt gt (q*4+3)) (vI6 (-1))) base s (.slice (some (vA0 gt)) T.length ct) (.slice (some (vA0 g)) L.length cap) V (T.set q ⟨z.k,-1⟩) (L.set j ⟨(q:Int),y.l.eraseIdx p⟩):=by
 have hj:=(List.getElem?_eq_some_iff.1 hy).1
 have hjV:=(List.getElem?_eq_some_iff.1 hv).1
 have hp:=(List.getElem?_eq_some_iff.1 hq).1
 have hm1:=h.m.hold hy (-1)
 have hm2:=hm1.below hb
 have hy2:(L.set j ⟨-1,y.l⟩)[j]? =some ⟨-1,y.l⟩:=by simp[hj]
 have hl2:L.length=(L.set j ⟨-1,y.l⟩).length:=by simp
 obtain⟨a0,a1,afz⟩:=hm2.lcell hl2 hy2 hv
 have hrow2:=hm2.lin j _ _ hy2 hv
 have hc2:w2.cell? (vAt gg p)=some (vI6 (q:Int)):=by
  rw[hrow2.cellAt p (by omega)]
  simp[ints,hq]
 have hm3:IsM (w2.setCell (vAt g (j*2)) (vI6 (q:Int))) base s (.slice (some (vA0 gt)) T.length ct) (.slice (some (vA0 g)) L.length cap) V T (L.set j ⟨(q:Int),y.l⟩):=by
  rw[hl2] at hm2
  have:=hm2.hold hy2 (q:Int)
  grind[List.set_set]
 have hy3:(L.set j ⟨(q:Int),y.l⟩)[j]? =some ⟨(q:Int),y.l⟩:=by simp[hj]
 have hl3:L.length=(L.set j ⟨(q:Int),y.l⟩).length:=by simp
 have hrow3:=hm3.lin j _ _ hy3 hv
 refine⟨(by grind),?_⟩
 refine(del_ok hrow3 hp).mono ?_
 rintro e w4 ⟨rfl,hown4,hfr4,hsz4⟩
 refine⟨rfl,?_⟩
 have hkk:=fun k (hk:k<(w2.setCell (vAt g (j*2)) (vI6 (q:Int))).heap.size) (hn:(Value.slice (some (vA0 gg)) y.l.length vc).ownBlock≠some k)=>hfr4.block k hk (fun e=>hn (by rw[e];rfl))
 have hm3':=hm3
 rw[hl3] at hm3'
 have hm5:=hm3'.lined hy3 hv (by omega) hkk hown4 (fun k hk=> .inl hk)
 rw[List.set_set,←hl3] at hm5
 have hm6:=hm5.waits hz (-1)
 obtain⟨b0,b1,bfz⟩:=hm3.lcell hl3 hy3 hv
 obtain⟨c,hc⟩:=hm3.lb (k:=g) rfl
 have hgg:g≠gg:=fun e=>by
  obtain⟨c',hc'⟩:=hm3.vb (List.mem_of_getElem? hv) (k:=gg) rfl
  grind
 have hg4:=hfr4.block g (Array.getElem?_eq_some_iff.1 hc).1 hgg
 have hy5:(L.set j ⟨(q:Int),y.l.eraseIdx p⟩)[j]? =some ⟨(q:Int),y.l.eraseIdx p⟩:=by simp[hj]
 have hv5:(V.set j (Value.slice (some (vA0 gg)) (y.l.eraseIdx p).length vc))[j]? =some (Value.slice (some (vA0 gg)) (y.l.eraseIdx p).length vc):=by grind
 have hl5:L.length=(L.set j ⟨(q:Int),y.l.eraseIdx p⟩).length:=by simp
 obtain⟨gt',ct',e5,f0,f1,ffz,fce⟩:=hm5.form h.f.t1
 simp at e5
 obtain⟨rfl,rfl⟩:=e5
 refine⟨⟨(World.cell?_of_block hg4).trans b1,fun k=> ?_⟩,⟨f0,(hm5.lcell hl5 hy5 hv5).1,(by grind),ffz _⟩,(hm6.lcell hl5 hy5 hv5).1,_,hm6.g (h.f.next hz hy hq),?_,?_⟩
 ·have:=bfz k
  unfold World.frozen? at this⊢
  grind
 ·have hf1:Fr (own s (.slice (some (vA0 gt)) T.length ct) (.slice (some (vA0 g)) L.length cap) V) w w2:=Fr.trans ((Fr.refl _ w).setCell (a:=(vAt g (j*2))) (.inr (.inr (.inl rfl))) _) (Fr.of_below' hb)
  have hf3:=hf1.setCell (a:=(vAt g (j*2))) (.inr (.inr (.inl rfl))) (vI6 (q:Int))
  have hf4:=hf3.trans (hfr4.wide (fun k _ e=>(by rw[e];exact .inr (.inr (.inr ⟨_,List.mem_of_getElem? hv,rfl⟩)):own s (.slice (some (vA0 gt)) T.length ct) (.slice (some (vA0 g)) L.length cap) V k)))
  exact(hf4.setCell (a:=(vAt g (j*2+1))) (.inr (.inr (.inl rfl))) _).setCell (a:=(vAt gt (q*4+3))) (.inr (.inl rfl)) _
 ·rintro k (r|r|r|⟨u,hu,r⟩)
  ·exact .inl (.inl r)
  ·exact .inl (.inr (.inl r))
  ·exact .inl (.inr (.inr (.inl r)))
  ·rcases List.mem_or_eq_of_mem_set hu with r'|rfl
   ·exact .inl (.inr (.inr (.inr ⟨u,r',r⟩)))
   ·exact .inl (.inr (.inr (.inr ⟨_,List.mem_of_getElem? hv,r⟩)))
end
section
variable {w:World} {base s:Nat} {vt vl:Value} {V:List Value} {T:List Th} {L:List Lk}
theorem unlock_next (h:IsG w base s vt vl V T L) (i j p q:Nat) (he:mayE T L i j=0) (y:Lk) (hy:L[j]? =some y) (ho:y.h=(i:Int)) (hp:(foreTo (keyOf T L) y.l y.l.length).1=(p:Int)) (hq:y.l[p]? =some q) (z:Th) (hz:T[q]? =some z):vCa 165 #[vPt s,vI6 (i:Int),vI6 (j:Int)] w fun e w'=>e=vRt #[vI6 (q:Int),vI6 0]∧Moved w w' base s vt vl V (T.set q ⟨z.k,-1⟩) (L.set j ⟨(q:Int),y.l.eraseIdx p⟩):=by
 have HM:=veil (may_ok h (i:Int) (j:Int))
 obtain⟨i',j',x,y',e1,e2,hi,hj,hx,hu,hy'⟩:=may_yes he
 obtain rfl:i=i':=by omega
 obtain rfl:j=j':=by omega
 rw[he] at HM
 have hj':(j:Int)<(L.length:Int):=by omega
 have hpl:=(List.getElem?_eq_some_iff.1 hq).1
 have hpl':(p:Int)<(y.l.length:Int):=by omega
 have hql:=(List.getElem?_eq_some_iff.1 hz).1
 have hql':(q:Int)<(T.length:Int):=by omega
 have ht2:=h.f.t2
 have hpp: ¬(p:Int)= -1:=by omega
 have hll:y.l.length≤9223372036854775807:=by
  obtain⟨v,hv⟩:=h.line hj
  obtain⟨va,vc,rfl,h1,h2⟩:=form_of (h.lin j y v hy hv)
  unfold maxLen at h2
  omega
 obtain⟨v,hv⟩:=h.line hj
 have hline:=h.lin j y v hy hv
 rcases hline.2 with ⟨_,e0⟩|⟨gg,vc,cur,rfl,_,_,hvc1,hvc2,_⟩
 ·omega
 obtain⟨g,cap,rfl,hc1,hc2,hg,hgs,_,_⟩:=h.lform (by omega)
 obtain⟨gt,ct,rfl,ht3,ht4,_⟩:=h.tform
 have HF:=veil (fore_freed h hx hu hy ho hv)
 rw[hp] at HF
 obtain⟨y0,y1,fz⟩:=h.m.lcell rfl hy hv
 rw[ho] at y0
 have c1:=h.c1
 have HN:=veil (fun w2 (hb:Below (w.setCell (vAt g (j*2)) (vI6 (-1))).heap.size (w.setCell (vAt g (j*2)) (vI6 (-1))) w2)=>next_mem (i:=i) (x:=x) h hy hv hq hz hb)
 clear h hline hy hy' hx he hv hp hq hz
 generalize y.l.eraseIdx p=l' at HN
 generalize y.l.length=vn at y1 HF HN hvc1 hpl hpl' hll
 refine ge ?_
 go_wp2_with (first
  |(go_at_call 191;refine cS HM.out ?_)
  |(go_at_call 192;refine(HF.out).mono ?_;rintro e w2 ⟨rfl,hb⟩;obtain⟨⟨a0,a1,a2,afz⟩,hdel⟩:=HN.out w2 hb;replace hdel:=veil hdel;clear hb)
  |(go_at_call 193;refine(hdel.out).mono ?_;rintro e w4 ⟨rfl,⟨b1,bfz⟩,⟨d0,d1,d2,d3⟩,d4,hmv⟩;replace hmv:=veil hmv))
 have d5:((w4.setCell (vAt g (j*2+1)) (.slice (some (vA0 gg)) l'.length vc)).setCell (vAt gt (q*4+3)) (vI6 (-1))).cell? (vA0 s)=some (.slice (some (vA0 gt)) T.length ct):=by
  obtain⟨V',hg',_⟩:=hmv.out
  have:=hg'.c0
  omega
 generalize w4.setCell (vAt g (j*2+1)) (.slice (some (vA0 gg)) l'.length vc)=W5 at d0 d1 d2 d3 d4 d5 hmv⊢
 have hS1:=veil (And.intro d0 d1)
 have hS2:Hid (W5.drew.cell? (vA0 s)=some (.slice (some (vA0 gt)) T.length ct)∧W5.drew.cell? (vAt g (j*2))=some (vI6 (q:Int))):=⟨d0,d1⟩
 have hS3:Hid ((W5.setCell (vAt gt (q*4+3)) (vI6 (-1))).drew.cell? (vA0 s)=some (.slice (some (vA0 gt)) T.length ct)∧(W5.setCell (vAt gt (q*4+3)) (vI6 (-1))).drew.cell? (vAt g (j*2))=some (vI6 (q:Int))):=⟨d5,d4⟩
 go_region_held3 (fun w'=>(w'.cell? (vA0 s)=some (.slice (some (vA0 gt)) T.length ct)∧w'.cell? (vAt g (j*2))=some (vI6 (q:Int))))
  (first|with_reducible exact hS1.out|with_reducible exact hS2.out|simp_all)
  (first|fail)
 have d6:(W5.setCell (vAt gt (q*4+3)) (vI6 (-1))).drew.cell? (vAt g (j*2))=some (vI6 (q:Int)):=d4
 obtain⟨V',m1,m2,m3⟩:=hmv.out
 have HMV:Hid (Moved w (W5.setCell (vAt gt (q*4+3)) (vI6 (-1))).drew base s (.slice (some (vA0 gt)) T.length ct) (.slice (some (vA0 g)) L.length cap) V (T.set q ⟨z.k,-1⟩) (L.set j ⟨(q:Int),l'⟩)):=⟨V',m1.drew,m2.drew,m3⟩
 clear m1 m2 m3 hmv
 generalize (W5.setCell (vAt gt (q*4+3)) (vI6 (-1))).drew=W6 at d6 HMV⊢
 go_wp2
 simp[bodyPost,results,Tryz.results165,go_sem]
 exact HMV.out
end
structure Md where
 T:List Th
 L:List Lk
open Classical in
noncomputable def lockR (M:Md) (t m:Int):(Bool×Int)×Md:=
 if mayE M.T M.L t m≠0 then((false,mayE M.T M.L t m),M) else
 match M.T[t.toNat]?,M.L[m.toNat]? with
 |some x,some y=>
  if y.h=t then((false,7),M) else
  if y.h= -1 then((true,0),⟨M.T,M.L.set m.toNat ⟨t,y.l⟩⟩) else
  if Leads M.L y.h.toNat t.toNat then((false,8),M) else
  ((false,0),⟨M.T.set t.toNat ⟨x.k,m⟩,M.L.set m.toNat ⟨y.h,y.l++[t.toNat]⟩⟩)
 |_,_=>((false,0),M)
noncomputable def nextP (M:Md) (y:Lk):Int:=(foreTo (keyOf M.T M.L) y.l y.l.length).1
noncomputable def unlR (M:Md) (t m:Int):(Int×Int)×Md:=
 if mayE M.T M.L t m≠0 then((-1,mayE M.T M.L t m),M) else
 match M.L[m.toNat]? with
 |some y=>
  if y.h≠t then((-1,9),M) else
  match y.l[(nextP M y).toNat]? with
  |none=>((-1,0),⟨M.T,M.L.set m.toNat ⟨-1,y.l⟩⟩)
  |some q=>(((q:Int),0),⟨(match M.T[q]? with|some z=>M.T.set q ⟨z.k,-1⟩|none=>M.T),M.L.set m.toNat ⟨(q:Int),y.l.eraseIdx (nextP M y).toNat⟩⟩)
 |none=>((-1,0),M)
def baseR (M:Md) (t:Int) (k:K):Int×Md:=
 if inT M.T t&&rightK k then match M.T[t.toNat]? with
  |some x=>(0,⟨M.T.set t.toNat ⟨k,x.u⟩,M.L⟩)
  |none=>(2,M)
 else(2,M)
def PG (w:World) (b:Nat) (O:Nat→Prop) (s:Nat) (M:Md):Prop:= ∃vt vl V,IsG w b s vt vl V M.T M.L∧ ∀k,own s vt vl V k↔O k
def Stp (w w':World) (b:Nat) (O:Nat→Prop) (s:Nat) (M:Md):Prop:= ∃O',PG w' b O' s M∧Fr O w w'∧ ∀k,O' k→O k∨w.heap.size≤k
section
variable {w w':World} {b s:Nat} {O:Nat→Prop} {M:Md}
theorem PG.f (h:PG w b O s M):Fine M.T M.L:=by obtain⟨_,_,_,hg,_⟩:=h;exact hg.f
theorem PG.lt (h:PG w b O s M) {k:Nat} (hk:O k):k<w.heap.size:=by obtain⟨_,_,_,hg,ho⟩:=h;exact hg.own_lt ((ho k).2 hk)
theorem PG.ge (h:PG w b O s M) {k:Nat} (hk:O k):b≤k:=by
 obtain⟨vt,vl,V,hg,ho⟩:=h
 rcases(ho k).2 hk with rfl|q|q|⟨v,hv,q⟩
 ·exact hg.lo
 ·exact(ownsRow_blk hg.tho q).1
 ·exact(ownsRow_blk hg.lko q).1
 ·obtain⟨j,hj⟩:=List.mem_iff_getElem?.1 hv
  have hjl:=(List.getElem?_eq_some_iff.1 hj).1
  rw[hg.vs] at hjl
  exact(ownsRow_blk (hg.lin j _ v (List.getElem?_eq_getElem hjl) hj) q).1
theorem PG.frame {S:Nat→Prop} (h:PG w b O s M) (hf:Fr S w w') (hn: ∀k,O k→ ¬S k):PG w' b O s M:=by
 obtain⟨vt,vl,V,hg,ho⟩:=h
 exact⟨vt,vl,V,hg.frame hf (by grind),ho⟩
theorem PG.below (h:PG w b O s M) (hf:vBw w w'):PG w' b O s M:=h.frame (Fr.of_below' (S:=fun _=>False) hf) (fun _ _=>id)
theorem PG.stay (h:PG w b O s M) (hf:vBw w w'):Stp w w' b O s M:=⟨O,h.below hf,Fr.of_below' hf,fun _ q=> .inl q⟩
theorem Moved.stp {vt vl:Value} {V:List Value} (ho: ∀k,own s vt vl V k↔O k) {T:List Th} {L:List Lk} (h:Moved w w' b s vt vl V T L):Stp w w' b O s ⟨T,L⟩:=by
 obtain⟨V',hg,hf,hn⟩:=h
 exact⟨_,⟨vt,vl,V',hg,fun k=>Iff.rfl⟩,hf.wide (by grind),fun k q=>(by grind)⟩
theorem PG.lock (h:PG w b O s M) (t m:Int):vCa 190 #[vPt s,vI6 t,vI6 m] w fun e w'=>e=vRt #[.bool (lockR M t m).1.1,vI6 (lockR M t m).1.2]∧Stp w w' b O s (lockR M t m).2:=by
 have hp:=h
 obtain⟨vt,vl,V,hg,ho⟩:=h
 unfold lockR
 by_cases he:mayE M.T M.L t m=0
 ·rw[if_neg (by omega)]
  obtain⟨i,j,x,y,rfl,rfl,hi,hj,hx,hu,hy⟩:=may_yes he
  simp only[Int.toNat_natCast,hx,hy]
  by_cases h1:y.h=(i:Int)
  ·rw[if_pos h1]
   grind[Pi.lock_own,Calls.mono,Pi.PG.stay,bzR]
  ·rw[if_neg h1]
   by_cases h2:y.h= -1
   ·rw[if_pos h2]
    refine(lock_free hg i j he y hy h2).mono ?_
    rintro e w' ⟨rfl,hg',hf⟩
    exact⟨rfl,Moved.stp ho ⟨V,hg',hf.wide (fun k _ q=> .inr (.inr (.inl q))),fun k q=> .inl q⟩⟩
   ·rw[if_neg h2]
    obtain⟨k,hk⟩: ∃k:Nat,y.h=(k:Int):=⟨y.h.toNat,by have:=(hg.f.lk y (List.mem_of_getElem? hy)).1;omega⟩
    have hki:k≠i:=fun e=>h1 (by omega)
    rw[hk,Int.toNat_natCast]
    by_cases h3:Leads M.L k i
    ·rw[if_pos h3]
     grind[Pi.lock_cycle,Calls.mono,Pi.PG.stay]
    ·rw[if_neg h3]
     grind[Pi.lock_wait,Calls.mono,Pi.Moved.stp]
 ·rw[if_pos he]
  grind[Pi.lock_may,Calls.mono,Pi.PG.stay,bzR]
theorem nextP_none {y:Lk} (h:y.l=[]):y.l[(nextP M y).toNat]? =none:=by grind
theorem nextP_some {y:Lk} (h:y.l≠[]): ∃p q:Nat,nextP M y=(p:Int)∧y.l[p]? =some q:=by
 obtain⟨p,hp,e,_⟩:=foreTo_some (keyOf M.T M.L) y.l y.l.length lzr (by grind)
 exact⟨p,y.l[p],e,List.getElem?_eq_getElem hp⟩
theorem PG.unlock (h:PG w b O s M) (t m:Int):vCa 165 #[vPt s,vI6 t,vI6 m] w fun e w'=>e=vRt #[vI6 (unlR M t m).1.1,vI6 (unlR M t m).1.2]∧Stp w w' b O s (unlR M t m).2:=by
 have hp:=h
 obtain⟨vt,vl,V,hg,ho⟩:=h
 unfold unlR
 by_cases he:mayE M.T M.L t m=0
 ·rw[if_neg (by omega)]
  obtain⟨i,j,x,y,rfl,rfl,hi,hj,hx,hu,hy⟩:=may_yes he
  simp only[Int.toNat_natCast,hy]
  by_cases h1:y.h=(i:Int)
  ·rw[if_neg (by omega)]
   by_cases h2:y.l=[]
   ·grind[Pi.unlock_free,Calls.mono,Pi.Moved.stp]
   ·obtain⟨p,q,e1,e2⟩:=nextP_some (M:=M) h2
    have hql:=(hg.f.lk y (List.mem_of_getElem? hy)).2.2.1 q (List.mem_of_getElem? e2)
    have hz:=List.getElem?_eq_getElem hql
    rw[e1,Int.toNat_natCast,e2]
    simp only[hz]
    refine(unlock_next hg i j p q he y hy h1 e1 e2 _ hz).mono ?_
    rintro e w' ⟨rfl,hmv⟩
    exact⟨rfl,hmv.stp ho⟩
  ·rw[if_pos h1]
   grind[Pi.unlock_other,Calls.mono,Pi.PG.stay,bzR]
 ·rw[if_pos he]
  grind[Pi.unlock_may,Calls.mono,Pi.PG.stay,bzR]
theorem PG.base (h:PG w b O s M) (t:Int) (k:K) (hk:k.ok):vCa 79 #[vPt s,vI6 t,.agg (vKy k)] w fun e w'=>e= .returned (vI6 (baseR M t k).1)∧Stp w w' b O s (baseR M t k).2:=by
 have hp:=h
 obtain⟨vt,vl,V,hg,ho⟩:=h
 unfold baseR
 cases ht:inT M.T t with
 |false=>
  simp only[Bool.false_and,Bool.false_eq_true,if_false]
  grind[Pi.base_no,Calls.mono,Pi.PG.stay]
 |true=>
  cases hr:rightK k with
  |false=>
   simp only[Bool.and_false,Bool.false_eq_true,if_false]
   grind[Pi.base_no,Calls.mono,Pi.PG.stay]
  |true=>
   obtain⟨j,x,rfl,hj,hx,_⟩:=inT_yes ht
   simp only[Bool.and_true,if_true,Int.toNat_natCast,hx]
   refine(base_yes hg j x hx k hk hr).mono ?_
   rintro e w' ⟨rfl,hg',hf⟩
   exact⟨rfl,Moved.stp ho ⟨V,hg',hf.wide (fun k _ q=> .inr (.inl q)),fun k q=> .inl q⟩⟩
theorem PG.key (h:PG w b O s M) (t:Int):vQ 83 #[vPt s,vI6 t] w (.agg (vKy (keyA M.T M.L t))):=by
 obtain⟨vt,vl,V,hg,ho⟩:=h
 exact key_ok hg t
def IL (w:World) (base:Nat) (v:Value) (l:List Int):Prop:=w.ownsRow base 3 1 v l.length (l.map (Value.int .i64))
theorem PG.held (h:PG w b O s M) (t:Int):vCa 198 #[vPt s,vI6 t] w fun e w'=> ∃v,e= .returned v∧IL w' w.heap.size v (heldA M.T M.L t)∧vBw w w':=by
 obtain⟨vt,vl,V,hg,ho⟩:=h
 exact Held_ok hg t
end
section
variable {w:World} {base s:Nat} {vt vl:Value} {V:List Value} {T:List Th} {L:List Lk}
end
def newM (n m:Nat):Md:=⟨newT n,newL m⟩
theorem pnew_ok (n m:Nat) (w:World) (h1:1≤n) (h2:n≤1024) (h3:m≤32):
  vCa 35 #[vI6 n,vI6 m] w fun e w'=> ∃s O,e= .returned (vPt s)∧PG w' w.heap.size O s (newM n m)∧vBw w w':=by
 refine(gnew_ok n m w h1 h2 h3).mono ?_
 rintro e w' ⟨s,gt,gl,rfl,hn⟩
 exact⟨s,_,rfl,⟨_,_,_,IsG.new hn h1 h2 h3,fun k=>Iff.rfl⟩,hn.be⟩
end Go.Proofs.YtnmhcgpnhlhcgaaGreatDoor.Pi

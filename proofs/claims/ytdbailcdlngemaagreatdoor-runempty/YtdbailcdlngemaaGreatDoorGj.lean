/- YtdbailcdlngemaaGreatDoorGj: of the texts I18 I19 I20 I21 I22 I23 I24 I25 I26 I27 I28 I29 I30 I31 I32 I33 what is wanted. -/
import Derived.Test.YtdbailcdlngemaaGreatDoorG0
import Derived.Test.YtdbailcdlngemaaGreatDoorGi
import Derived.OrdersHeld
import Derived.OrdersIn
import Derived.Laws.EntriesVeiled
import Derived.Shelf.SlicesE.Delete
import Derived.Deep.AppendLies
set_option maxHeartbeats 16000000
set_option maxRecDepth 100000
set_option linter.unusedVariables false
set_option linter.unusedSimpArgs false
namespace Go.Proofs.YtdbailcdlngemaaGreatDoor.Pi
open Go.Proofs.YtdbailcdlngemaaGreatDoor.Ke
open Go.Lib
open Go.RowKit hiding Hid
def Kept (l D:Nat) (r:Loop) (W:World):Prop:=W.heap[l]? =some (.loop r)∧W.heap[D]? =some (.deferred (some []))
theorem Kept.alloc {l D:Nat} {r:Loop} {W:World} (h:Kept l D r W) (o:Obj):Kept l D r (W.alloc o):=
 ⟨(Below.heap_alloc _ _ _ (Array.getElem?_eq_some_iff.1 h.1).1).trans h.1,(Below.heap_alloc _ _ _ (Array.getElem?_eq_some_iff.1 h.2).1).trans h.2⟩
theorem Kept.put {l D:Nat} {r:Loop} {W:World} (h:Kept l D r W) (hne:l≠D) (r':Loop):Kept l D r' (W.putObj l (.loop r')):=
 ⟨World.putObj_heap_same (Array.getElem?_eq_some_iff.1 h.1).1,(World.putObj_heap_other (Ne.symm hne)).trans h.2⟩
theorem Kept.ka {l D k:Nat} {r:Loop} {W:World} (h:Kept l D r W) (h1:l≠k) (h2:D≠k) (o:Obj):Kept l D r (W.putObj k o):=
 ⟨(World.putObj_heap_other h1).trans h.1,(World.putObj_heap_other h2).trans h.2⟩
theorem Kept.keeps {l D B:Nat} {r:Loop} {W W':World} (h:Kept l D r W) (hl:B≤l) (hD:B≤D) (hk:KeepsFrom B W W'):Kept l D r W':=
 ⟨hk.same l _ hl h.1 rfl,hk.same D _ hD h.2 rfl⟩
structure FT (n:Nat) (J:Nat→World→Prop):Prop where
 al: ∀k W o,J k W→J k (World.alloc W o)
 pu: ∀k W l o o',n≤l→W.heap[l]? =some o→o.isCells=false→J k W→J k (W.putObj l o')
structure Kk (n:Nat) (S:Nat→Prop) (V V':World):Prop where
 kp:KeepsFrom n V V'
 kc: ∀b c t x,¬S b→V.heap[b]? =some (.cells c t x)→V'.heap[b]? =some (.cells c t x)
theorem Kk.refl (n:Nat) (S:Nat→Prop) (V:World):Kk n S V V:=⟨KeepsFrom.refl _ _,fun _ _ _ _ _ h=>h⟩
theorem Kk.trans {n:Nat} {S:Nat→Prop} {A B C:World} (h:Kk n S A B) (k:Kk n S B C):Kk n S A C:=⟨h.kp.trans k.kp,fun b c t x hs hb=>k.kc b c t x hs (h.kc b c t x hs hb)⟩
theorem Kk.wide {n n':Nat} {S:Nat→Prop} {A B:World} (h:Kk n S A B) (hn:n≤n'):Kk n' S A B:=⟨⟨h.kp.size,fun k o hk ho hc=>h.kp.same k o (Nat.le_trans hn hk) ho hc⟩,h.kc⟩
theorem Kk.below {n:Nat} {S:Nat→Prop} {A B:World} (h:Below A.heap.size A B):Kk n S A B:=
 ⟨⟨h.size,fun k o _ ho _=>(h.block k (Array.getElem?_eq_some_iff.1 ho).1).trans ho⟩,fun b c t x _ hb=>(h.block b (Array.getElem?_eq_some_iff.1 hb).1).trans hb⟩
theorem Kk.setCell {n:Nat} {S:Nat→Prop} {A B:World} (h:Kk n S A B) {a:Addr} (ha:S a.block) (v:Value):Kk n S A (B.setCell a v):=
 h.trans ⟨(KeepsOthers.setCell B a v).from n,fun b c t x hs hb=>(Below.heap_setCell _ _ _ _ (fun e=>hs (by rw[e];exact ha))).trans hb⟩
theorem Kk.put {n:Nat} {S:Nat→Prop} {A B:World} (h:Kk n S A B) {l:Nat} {o o':Obj} (hl:l<n) (ho:B.heap[l]? =some o) (hc:o.isCells=false):Kk n S A (B.putObj l o'):=by
 refine h.trans ⟨⟨by simp[World.putObj],fun k x hk hx _=>(World.putObj_heap_other (by omega)).trans hx⟩,fun b c t x _ hb=>(World.putObj_heap_other (fun e=> ?_)).trans hb⟩
 subst e
 rw[hb] at ho
 obtain rfl:=Option.some.inj ho
 cases hc
theorem Kk.box {n:Nat} {S:Nat→Prop} {A B:World} (h:Kk n S A B) {b:Nat} {t:TypeId} {v:Value} (hs: ¬S b) (hb:Boxed A b t v):Boxed B b t v:=h.kc b _ _ _ hs hb
theorem jV {V:World} {b:Nat} {ty:TypeId} {v:Value} {k:Nat} {o o':Obj} (hb:Boxed V b ty v) (ho:V.heap[k]? =some o) (hc:o.isCells=false):Boxed (V.putObj k o') b ty v:=by
 refine hb.kept (grownBy_putObj' V k o') (fun e=> ?_)
 cases e
 rw[show V.heap[b]? =_ from hb] at ho
 obtain rfl:=Option.some.inj ho
 cases hc
theorem yh {P:Program} {n:Nat} {g:Operand} {p:Tmp} {assign body:Code} {Q:Exit→Act→World→Prop} {a:Act} {w:World} {gf:Nat} {lb:Array Value}
  (hg:a.eval g= .func (.func gf) #[] lb) (eg: ∀args w,(callFunc gf args).run P w= .ok (.enter gf args) w)
  (J:Nat→World→Prop) (N Y:Nat→Prop) (enc:Nat→Value) (m:Nat) (a₁:Nat→Act) (S:Nat→Prop)
  (hA:FT w.heap.size J)
  (hNo: ∀k W,N k→J k W→J (k+1) W) (h0:J 0 w)
  (hit: ∀(l:Nat) (J':Nat→World→Prop) (W:World),(∀k W,J' k W→J k W)→FT W.heap.size J'→(∀k W,N k→J' k W→J' (k+1) W)→
   (∀k V,Y k→J' k V→YieldAt Fence.wide (n-1-1) P l #[enc k] V fun e V'=>e= .returned (.bool true)∧J' (k+1) V'∧Kk W.heap.size S V V')→J' 0 W→w.heap.size+2=W.heap.size→
   CallsIn Fence.wide (n-1) P gf (#[.func (.yield l) #[] #[]]++lb) W fun e W'=>(∃v,e= .returned v)∧J' m W')
  (has: ∀(l k:Nat) (W:World) (K:Act→World→Prop),K (a₁ k) W→assign.wpIn (Fence.wide.inRound l) (n-1-1) P (Exit.then K (fun _ _ _=>False)) {tmps:=a.tmps.setIfInBounds p (enc k),defers:=[]} W)
  (hbo: ∀(l k:Nat) (W:World),Y k→J k W→body.wpIn (Fence.wide.inRound l) (n-1-1) P (fun e _ W'=>e= .normal∧Kk w.heap.size S W W'∧J (k+1) W') (a₁ k) W)
  (hdo: ∀(D:Nat) (W:World),w.heap.size≤D→J m W→W.heap[D]? =some (.deferred (some []))→Q .normal {a with defers:={target:= .collected D,args:= #[]}::a.defers} W):
  (Code.rangeFunc g #[p] assign body).wpIn Fence.wide n P Q a w:=by
 refine wpIn_rangeFunc fun fn hfn=> ?_
 have hne:w.heap.size+1≠w.heap.size:=by omega
 obtain⟨r,hr⟩: ∃r:Loop,r={state:= .ready,pending:=none,fn,tmps:=a.tmps,params:= #[p],assign,body,defers:=w.heap.size}:=⟨_,rfl⟩
 have hk0:Kept (w.heap.size+1) w.heap.size r ((w.alloc (.deferred (some []))).alloc (.loop r)):=by
  refine⟨?_,(Below.heap_alloc _ _ _ (by simp)).trans (World.alloc_heap_new w _)⟩
  have:=World.alloc_heap_new (w.alloc (.deferred (some []))) (.loop r)
  rwa [World.size_alloc] at this
 have hready:r.state= .ready:=by rw[hr]
 refine⟨w.heap.size+1,[{target:= .collected w.heap.size,args:= #[]}],(w.alloc (.deferred (some []))).alloc (.loop r),{target:= .fn (.func gf) lb,args:= #[.func (.yield (w.heap.size+1)) #[] #[]]},(w.alloc (.deferred (some []))).alloc (.loop r),gf,#[.func (.yield (w.heap.size+1)) #[] #[]]++lb,(w.alloc (.deferred (some []))).alloc (.loop r),?_,?_,fun _ _=>trivial,?_,fun h=>(by cases h),?_⟩
 ·rw[hr];exact run_enterLoop_outer _ _ _ _ _
 ·simp only[resolve,hg]
  simp[go_sem]
 ·simp[invoke,go_sem,eg]
 ·refine(hit (w.heap.size+1) (fun k W=>J k W∧Kept (w.heap.size+1) w.heap.size r W) _ (fun _ _ h=>h.1) ⟨fun k W o h=>⟨hA.al k W o h.1,h.2.alloc o⟩,fun k W l o o' hl ho hc h=> ?_⟩ (fun k W hN h=>⟨hNo k W hN h.1,h.2⟩) ?_ ⟨hA.al 0 _ _ (hA.al 0 _ _ h0),hk0⟩ (by simp)).mono ?_
  ·simp only[World.size_alloc] at hl
   exact⟨hA.pu k W l o o' (by omega) ho hc h.1,h.2.ka (by omega) (by omega) o'⟩
  ·rintro k W hY ⟨hJ,hK⟩
   have hy:=run_yield (P:=P) (args:= #[enc k]) hK.1 (by rw[hr];rfl)
   refine⟨_,_,_,_,hy,roundIn_of_wpIn (by rw[hr];exact hfn) ?_⟩
   have e1:r.assign=assign:=by rw[hr]
   have e2:r.body=body:=by rw[hr]
   have e3:((r.params.zip #[enc k]).foldl (fun tmps (t,a)=>tmps.setIfInBounds t a) r.tmps)=a.tmps.setIfInBounds p (enc k):=by rw[hr];simp
   rw[e1,e2,e3]
   refine has _ k W _ ?_
   refine⟨_,run_beginRound hK.1 hready,?_⟩
   have hJ1:J k (W.putObj (w.heap.size+1) (.loop {r with state:= .busy})):=hA.pu k W _ _ _ (by omega) hK.1 rfl hJ
   have hK1:=hK.put hne {r with state:= .busy}
   refine wpIn_mono (hbo _ k _ hY hJ1) ?_
   rintro e a3 W3 ⟨rfl,hk3,hJ3⟩
   have hK3:=hK1.keeps (by omega) (Nat.le_refl _) hk3.kp
   have hkk:Kk (w.heap.size+2) S W W3:=((Kk.refl _ S W).put (by omega) hK.1 rfl).trans (hk3.wide (by omega))
   refine⟨_,_,run_endRound none hK3.1,rfl,⟨hA.pu (k+1) W3 _ _ _ (by omega) hK3.1 rfl hJ3,?_⟩,?_⟩
   ·have:=hK3.put hne {{r with state:=LoopState.busy} with state:= .ready,pending:=none}
    rw[hr] at this⊢
    exact this
   ·simp only[World.size_alloc]
    exact hkk.put (by omega) hK3.1 rfl
  ·rintro e W2 ⟨⟨v,rfl⟩,hJ,hK⟩
   refine⟨none,_,?_,hdo _ _ (Nat.le_refl _) (hA.pu m W2 _ _ (.loop {r with state:= .exhausted}) (by omega) hK.1 rfl hJ) (hK.put hne _).2⟩
   have:=run_endLoop (P:=P) hK.1 (by rw[hready];decide)
   rw[this,hr]
end Go.Proofs.YtdbailcdlngemaaGreatDoor.Pi
namespace Go.Proofs.YtdbailcdlngemaaGreatDoor.Pi
open Go.Proofs.YtdbailcdlngemaaGreatDoor.Ke
open Go.Shelf
open Go.RowKit hiding Hid
attribute [local go_sem] Oper.semAt_some
structure Vw (n0:Nat) (W:World) (s gt ct:Nat) (a:Option Addr) (cap:Nat) (ln:Nat→Option Addr×Nat) (T:List Th) (L:List Lk):Prop where
 sl:s<n0
 tl:gt<n0
 al: ∀g,a=some ⟨g,0,none⟩→g<n0
 t:F0 W s gt ct T
 c1:W.cell? ⟨s,1,none⟩=some (.slice a L.length cap)
 le:L.length≤cap∧cap≤maxLen
 ce: ∀(j:Nat) y,L[j]? =some y→ ∃g,a=some ⟨g,0,none⟩∧W.cell? ⟨g,j*2,none⟩=some (.int .i64 y.h)∧W.cell? ⟨g,j*2+1,none⟩=some (.slice (ln j).1 y.l.length (ln j).2)∧y.l.length≤(ln j).2∧(ln j).2≤maxLen∧
  ∀(i:Nat) (x:Nat),y.l[i]? =some x→ ∃gg,(ln j).1=some ⟨gg,0,none⟩∧gg<n0∧W.cell? ⟨gg,i,none⟩=some (.int .i64 (x:Int))
theorem Vw.below {n0:Nat} {W W':World} {s gt ct:Nat} {a:Option Addr} {cap:Nat} {ln:Nat→Option Addr×Nat} {T:List Th} {L:List Lk} (h:Vw n0 W s gt ct a cap ln T L) (hb:Below n0 W W'):Vw n0 W' s gt ct a cap ln T L:=by
 refine⟨h.sl,h.tl,h.al,h.t.below hb h.sl h.tl,(hb.cell (p:=⟨s,1,none⟩) h.sl).trans h.c1,h.le,fun j y hy=> ?_⟩
 obtain⟨g,e,y0,y1,l1,l2,hx⟩:=h.ce j y hy
 refine⟨g,e,(hb.cell (p:=⟨g,j*2,none⟩) (h.al g e)).trans y0,(hb.cell (p:=⟨g,j*2+1,none⟩) (h.al g e)).trans y1,l1,l2,fun i x hi=> ?_⟩
 obtain⟨gg,e1,e2,e3⟩:=hx i x hi
 exact⟨gg,e1,e2,(hb.cell (p:=⟨gg,i,none⟩) e2).trans e3⟩
def tT (V:List Value) (j:Nat):Option Addr×Nat:=match V[j]? with
 |some (.slice a _ c)=>(a,c)
 |_=>(none,0)
theorem eJ.vw {w:World} {base s:Nat} {vt vl:Value} {V:List Value} {T:List Th} {L:List Lk} (h:eJ w base s vt vl V T L): ∃gt ct a cap,vt= .slice (some ⟨gt,0,none⟩) T.length ct∧vl= .slice a L.length cap∧Vw w.heap.size w s gt ct a cap (tT V) T L:=by
 obtain⟨gt,ct,e,ht⟩:=h.IC
 obtain⟨a,cap,e',hl⟩:=h.Is
 refine⟨gt,ct,a,cap,e,e',h.lt,(aq h.tho (k:=gt) (by rw[e];rfl)).2.1,fun g eg=>(aq h.lko (k:=g) (by rw[e',eg];rfl)).2.1,ht,hl.c1,hl.le,fun j y hy=> ?_⟩
 have hj:=(List.getElem?_eq_some_iff.1 hy).1
 obtain⟨v,hv⟩:=h.line hj
 obtain⟨g,cap',e2,_,_,_,_,_,hc⟩:=h.DB (by omega)
 rw[e'] at e2
 simp at e2
 obtain⟨y0,y1⟩:=hc j y v hy hv
 have hown:=h.lin j y v hy hv
 obtain⟨va,vc,rfl,l1,l2⟩:=lK hown
 have el:tT V j=(va,vc):=by unfold tT;rw[hv]
 rw[el]
 refine⟨g,e2.1,y0,y1,l1,l2,fun i x hi=> ?_⟩
 have hil:=(List.getElem?_eq_some_iff.1 hi).1
 rcases hown.2 with ⟨e3,e0⟩|⟨gg,vc',cur,e3,_,hgg,_⟩
 ·omega
 ·simp at e3
  obtain⟨e4,rfl⟩:=e3
  refine⟨gg,e4,(Array.getElem?_eq_some_iff.1 hgg).1,?_⟩
  subst e4
  rw[hown.cellAt i (by omega)]
  simp[ints,hi]
theorem fI (A B:List Lk) (t:Nat):behind (A++B) t=behind A t++behind B t:=by unfold behind;rw[List.filter_append,List.flatMap_append]
theorem kB {α:Type} {l:List α} {j:Nat} {y:α} (h:l[j]? =some y):l.take (j+1)=l.take j++[y]:=by
 rw[List.take_add_one,h];rfl
theorem DZ {L:List Lk} {t j:Nat} {y:Lk} (hy:L[j]? =some y) (h: ¬y.h=(t:Int)):behind (L.take (j+1)) t=behind (L.take j) t:=by
 rw[kB hy,fI]
 simp[behind,h]
theorem uI {L:List Lk} {t j:Nat} {y:Lk} (hy:L[j]? =some y) (h:y.h=(t:Int)):behind (L.take (j+1)) t=behind (L.take j) t++y.l:=by
 rw[kB hy,fI]
 simp[behind,h]
theorem C4 (L:List Lk) (t j:Nat):behind (L.take j) t<+:behind L t:=by
 conv=>rhs;rw[←List.take_append_drop j L]
 rw[fI]
 exact List.prefix_append _ _
theorem FL {L:List Lk} {t j i x:Nat} {y:Lk} (hy:L[j]? =some y) (h:y.h=(t:Int)) (hx:y.l[i]? =some x):(behind L t)[(behind (L.take j) t).length+i]? =some x:=by
 obtain⟨r,hr⟩:=C4 L t (j+1)
 rw[←hr,uI hy h]
 have hi:=(List.getElem?_eq_some_iff.1 hx).1
 rw[List.getElem?_append_left (by simp;omega),List.getElem?_append_right (by omega)]
 simpa using hx
theorem rS (nn:Nat) (l B1 B2 s gt ct:Nat) (a:Option Addr) (cap:Nat) (ln:Nat→Option Addr×Nat) (n0:Nat) (T:List Th) (L:List Lk) (t:Int) (n1:Nat) (J:Nat→World→Prop) (hL:L.length≤32)
  (hJ: ∀k W,J k W→W.cell? ⟨B1,0,none⟩=some (.pointer (some ⟨s,0,none⟩))∧W.cell? ⟨B2,0,none⟩=some (.int .i64 t)∧Vw n0 W s gt ct a cap ln T L)
  (hB: ∀k W,J k W→B2<W.heap.size)
  (hA:FT n1 J)
  (hN: ∀k W,(∀y,L[k]? =some y→ ¬y.h=t)→J k W→J (k+1) W)
  (hY: ∀k W,(∃y,L[k]? =some y∧y.h=t)→J k W→YieldAt Fence.wide (nn-1) Tryz.prog l #[.int .i64 (k:Int)] W fun e W'=>e= .returned (.bool true)∧J (k+1) W')
  (W:World) (h0:J 0 W):
  CallsIn Fence.wide nn Tryz.prog 189 #[.func (.yield l) #[] #[],.pointer (some ⟨B1,0,none⟩),.pointer (some ⟨B2,0,none⟩)] W fun e W'=>(∃v,e= .returned v)∧J L.length W':=by
 obtain⟨b1,_,hv⟩:=hJ 0 W h0
 have c1:=hv.c1
 have hle:=hv.le
 have HJ:=aa hJ
 have HB:=aa hB
 have HA:=aa hA
 have HN:=aa hN
 have HY:=aa hY
 have H0:=aa h0
 clear hJ hA hN hY h0 hv hB
 refine callsIn_of_wp Tryz.func189 rfl trivial ?_ rfl
 simp only[Tryz.ntmps189,List.size_toArray,List.length_cons,List.length_nil,Nat.reduceAdd,Nat.reduceSub,Array.replicate_succ,Array.replicate_zero,List.push_toArray,List.append_toArray,List.nil_append,List.cons_append]
 gi_wp2
 gi_loopw [11] (fun p wr=> ∃(j:Nat),j≤L.length∧p= .int .i64 j∧J j wr)
  (fun p _=>L.length-(RowKit.intOf p).toNat)
 case atStart=>exact⟨0,by omega,rfl,H0.out⟩
 case round=>
  obtain⟨j,hj,rfl,hJ0⟩:=hrel
  by_cases hjl:j<L.length
  ·have hjl':(j:Int)<(L.length:Int):=by omega
   obtain⟨y,hy⟩: ∃y,L[j]? =some y:=⟨_,List.getElem?_eq_getElem hjl⟩
   obtain⟨b1',b2,hv⟩:=HJ.out j wr hJ0
   obtain⟨g,rfl,y0,y1,_⟩:=hv.ce j y hy
   generalize y.l.length=vn at y1
   generalize (ln j).1=va at y1
   generalize (ln j).2=vc at y1
   have hlt2:=HB.out j wr hJ0
   have hne2: ¬B2=wr.heap.size:=by omega
   have HJ0:=aa hJ0
   have HYJ:=aa hy
   clear hJ0 hy hv
   by_cases hh:y.h=t
   ·have hh':(y.h==t)=true:=by simp[hh]
    have hJ1:J j (wr.alloc (.cells #[.int .i64 t,.slice va vn vc] 136)):=HA.out.al _ _ _ HJ0.out
    obtain⟨fn,tmps,assign,body,hyy,hR⟩:=HY.out j _ ⟨y,HYJ.out,hh⟩ hJ1
    clear hJ1
    gi_wp2
    refine⟨fun h=>(by cases h),hR.mono ?_⟩
    rintro e W3 ⟨rfl,hJ3⟩
    have HJ3:=aa hJ3
    clear hJ3 hyy hR HY
    gi_wp2
    go_roundw
    case rel=>exact⟨j+1,by omega,by go_num,HJ3.out⟩
    case measure=>simp[RowKit.intOf];omega
   ·have hh':(y.h==t)=false:=by simp[hh]
    have HJ1:Hid (J (j+1) (wr.alloc (.cells #[.int .i64 y.h,.slice va vn vc] 136))):=HN.out j _ (fun z hz=>by rw[HYJ.out] at hz;obtain rfl:=Option.some.inj hz;exact hh) (HA.out.al _ _ _ HJ0.out)
    gi_wp2
    refine⟨fun _ h=>(by cases h),?_⟩
    gi_wp2
    go_roundw
    case rel=>exact⟨j+1,by omega,by go_num,HJ1.out⟩
    case measure=>simp[RowKit.intOf];omega
  ·have hjl': ¬(j:Int)<(L.length:Int):=by omega
   obtain rfl:j=L.length:=by omega
   have HJ0:=aa hJ0
   clear hJ0
   gi_wp2
   go_end0
   exact⟨⟨_,rfl⟩,HJ0.out⟩
theorem wX (nn s:Nat) (t:Int) (w:World):
  CallsIn Fence.wide nn Tryz.prog 120 #[.pointer (some ⟨s,0,none⟩),.int .i64 t] w fun e w'=>e= .returned (.func (.func 159) #[] #[.pointer (some ⟨w.heap.size,0,none⟩),.pointer (some ⟨w.heap.size+1,0,none⟩)])∧
   w'=(w.alloc (.cells #[.pointer (some ⟨s,0,none⟩)] 86)).alloc (.cells #[.int .i64 t] 3):=by
 refine callsIn_of_wp Tryz.func120 rfl trivial ?_ rfl
 simp only[Tryz.ntmps120,List.size_toArray,List.length_cons,List.length_nil,Nat.reduceAdd,Nat.reduceSub,Array.replicate_succ,Array.replicate_zero,List.push_toArray,List.append_toArray,List.nil_append,List.cons_append]
 gi_wp2
 go_ret
 exact⟨by simp,rfl⟩
theorem zD {m m' l':Nat} {P:Program} {l:Nat} {f:FuncId} {tmps:Array Value} {assign body:Code} {w:World} {R:Ending→World→Prop} (h:RoundIn Fence.wide m P l f tmps assign body w R):RoundIn (Fence.wide.inRound l') m' P l f tmps assign body w R:=⟨h.1,fun c cs _=>h.2 c cs (fun d q=>by cases q)⟩
theorem nP (l B1 B2 s gt ct:Nat) (a:Option Addr) (cap:Nat) (ln:Nat→Option Addr×Nat) (n0:Nat) (T:List Th) (L:List Lk) (t:Nat) (n1:Nat) (J:Nat→World→Prop) (S:Nat→Prop) (hL:L.length≤32) (hS: ∀b,n1≤b→ ¬S b)
  (hJ: ∀k W,J k W→Boxed W B1 86 (.pointer (some ⟨s,0,none⟩))∧Boxed W B2 3 (.int .i64 (t:Int))∧Vw n0 W s gt ct a cap ln T L)
  (hA:FT n1 J)
  (hY: ∀k W,k<(behind L t).length→J k W→YieldAt Fence.wide 8 Tryz.prog l #[.int .i64 (((behind L t)[k]?.getD 0:Nat):Int)] W fun e W'=>e= .returned (.bool true)∧J (k+1) W'∧Kk n1 S W W')
  (W:World) (hW:n1≤W.heap.size) (h0:J 0 W):
  CallsIn Fence.wide 9 Tryz.prog 159 #[.func (.yield l) #[] #[],.pointer (some ⟨B1,0,none⟩),.pointer (some ⟨B2,0,none⟩)] W fun e W'=>(∃v,e= .returned v)∧J (behind L t).length W':=by
 obtain⟨hb1,hb2,hv⟩:=hJ 0 W h0
 have b1:=hb1.cell
 have b2:=hb2.cell
 have hl1:=hb1.lt
 have hl2:=hb2.lt
 have hn1: ¬B1=W.heap.size:=by have:=hb1.lt;omega
 have hn2: ¬B2=W.heap.size:=by have:=hb2.lt;omega
 have HJ:=aa hJ
 have HA:=aa hA
 have HY:=aa hY
 have H0:=aa h0
 clear hJ hA hY h0 hv hb1 hb2
 refine callsIn_of_wp_marks Tryz.func159 rfl trivial ?_ rfl
 simp only[Tryz.ntmps159,List.size_toArray,List.length_cons,List.length_nil,Nat.reduceAdd,Nat.reduceSub,Array.replicate_succ,Array.replicate_zero,List.push_toArray,List.append_toArray,List.nil_append,List.cons_append]
 gi_wp2_with (refine⟨trivial,?_⟩;gi_at_call 160;refine(CZ _ s (t:Int) _).mono ?_;rintro e w' ⟨rfl,rfl⟩)
 have hsz:((((W.alloc (.cells #[.func (.yield l) #[] #[]] 156)).alloc (.cells #[.pointer (some ⟨s,0,none⟩)] 86)).alloc (.cells #[.int .i64 (t:Int)] 3))).heap.size=W.heap.size+3:=by simp
 have bY:=((Boxed.new W 156 (.func (.yield l) #[] #[])).alloc (.cells #[.pointer (some ⟨s,0,none⟩)] 86)).alloc (.cells #[.int .i64 (t:Int)] 3)
 have bG:=(Boxed.new (W.alloc (.cells #[.func (.yield l) #[] #[]] 156)) 86 (.pointer (some ⟨s,0,none⟩))).alloc (.cells #[.int .i64 (t:Int)] 3)
 have bT:=Boxed.new ((W.alloc (.cells #[.func (.yield l) #[] #[]] 156)).alloc (.cells #[.pointer (some ⟨s,0,none⟩)] 86)) 3 (.int .i64 (t:Int))
 have hJ0:=HA.out.al 0 _ (.cells #[.int .i64 (t:Int)] 3) (HA.out.al 0 _ (.cells #[.pointer (some ⟨s,0,none⟩)] 86) (HA.out.al 0 _ (.cells #[.func (.yield l) #[] #[]] 156) H0.out))
 simp only[World.size_alloc] at bG bT⊢
 generalize ((W.alloc (.cells #[.func (.yield l) #[] #[]] 156)).alloc (.cells #[.pointer (some ⟨s,0,none⟩)] 86)).alloc (.cells #[.int .i64 (t:Int)] 3)=W0 at hsz bY bG bT hJ0⊢
 have HS:=aa hS
 clear hS
 have hA2:FT W0.heap.size (fun j V=>J ((behind (L.take j) t).length) V∧Boxed V W.heap.size 156 (.func (.yield l) #[] #[])∧Boxed V (W.heap.size+1) 86 (.pointer (some ⟨s,0,none⟩))∧Boxed V (W.heap.size+1+1) 3 (.int .i64 (t:Int))):=by
  refine⟨fun k V o h=>⟨HA.out.al _ _ _ h.1,h.2.1.alloc _,h.2.2.1.alloc _,h.2.2.2.alloc _⟩,fun k V x o o' hx ho hc h=>⟨HA.out.pu _ _ _ _ _ (by omega) ho hc h.1,jV h.2.1 ho hc,jV h.2.2.1 ho hc,jV h.2.2.2 ho hc⟩⟩
 have HA2:=aa hA2
 have hNo2: ∀k (V:World),(∀y,L[k]? =some y→ ¬y.h=(t:Int))→(J ((behind (L.take k) t).length) V∧Boxed V W.heap.size 156 (.func (.yield l) #[] #[])∧Boxed V (W.heap.size+1) 86 (.pointer (some ⟨s,0,none⟩))∧Boxed V (W.heap.size+1+1) 3 (.int .i64 (t:Int)))→
   (J ((behind (L.take (k+1)) t).length) V∧Boxed V W.heap.size 156 (.func (.yield l) #[] #[])∧Boxed V (W.heap.size+1) 86 (.pointer (some ⟨s,0,none⟩))∧Boxed V (W.heap.size+1+1) 3 (.int .i64 (t:Int))):=by
  intro k V hn h
  cases hy:L[k]? with
  |none=>
   have hk:=List.getElem?_eq_none_iff.1 hy
   rw[List.take_of_length_le (by omega)]
   rw[List.take_of_length_le (by omega)] at h
   exact h
  |some y=>rw[DZ hy (hn y hy)];exact h
 have hend:(behind (L.take L.length) t).length=(behind L t).length:=by rw[List.take_length]
 refine yh (gf:=189) (lb:= #[.pointer (some ⟨W.heap.size+1,0,none⟩),.pointer (some ⟨W.heap.size+1+1,0,none⟩)]) rfl (enters_of Tryz.func189 (by kernel_rfl) rfl)
  (fun j V=>J ((behind (L.take j) t).length) V∧Boxed V W.heap.size 156 (.func (.yield l) #[] #[])∧Boxed V (W.heap.size+1) 86 (.pointer (some ⟨s,0,none⟩))∧Boxed V (W.heap.size+1+1) 3 (.int .i64 (t:Int)))
  (fun k=> ∀y,L[k]? =some y→ ¬y.h=(t:Int)) (fun k=> ∃y,L[k]? =some y∧y.h=(t:Int)) (fun k=> .int .i64 (k:Int)) L.length
  (fun k=>{tmps:= #[.func (.yield l) #[] #[],.pointer (some ⟨B1,0,none⟩),.pointer (some ⟨B2,0,none⟩),.pointer (some ⟨W.heap.size,0,none⟩),.int .i64 (k:Int),undef,undef,.pointer (some ⟨s,0,none⟩),.int .i64 (t:Int),.func (.func 189) #[] #[.pointer (some ⟨W.heap.size+1,0,none⟩),.pointer (some ⟨W.heap.size+1+1,0,none⟩)],.int .i64 (k:Int),undef,undef,undef,undef,undef,undef,undef,undef,undef,undef,undef,undef,undef,undef,undef,undef,undef,undef],defers:=[]})
  S hA2 hNo2 ⟨by simpa [behind] using hJ0,bY,bG,bT⟩ ?hit ?assign ?body ?done
 case hit=>
  intro l' J' W1 h1 h2 h3 h4 h5 h6
  exact rS 8 l' _ _ s gt ct a cap ln n0 T L (t:Int) W1.heap.size J' hL (fun k V h=>⟨(h1 k V h).2.2.1.cell,(h1 k V h).2.2.2.cell,(HJ.out _ _ (h1 k V h).1).2.2⟩) (fun k V h=>(h1 k V h).2.2.2.lt) h2 h3 (fun k V hk h=>(h4 k V hk h).mono (fun e V' q=>⟨q.1,q.2.1⟩)) W1 h5
 case assign=>
  intro l' k V K hK
  gi_wp2
  exact hK
 case body=>
  rintro l' k V ⟨y,hy,hh⟩ ⟨hJk,hbY,hbG,hbT⟩
  obtain⟨hq1,hq2,hv⟩:=HJ.out _ _ hJk
  have c1:=hv.c1
  have hk:=(List.getElem?_eq_some_iff.1 hy).1
  have hk':(k:Int)<(L.length:Int):=by omega
  have hle:=hv.le
  obtain⟨g,rfl,y0,y1,l1,l2,_⟩:=hv.ce k y hy
  generalize hlv:(ln k).1=va at y1
  generalize hlc:(ln k).2=vc at y1 l1 l2
  replace hlv:=aa hlv
  replace hlc:=aa hlc
  have q1:=hq1.cell
  have HBY:=aa hbY
  have HBG:=aa hbG
  have HBT:=aa hbT
  have HJk:=aa hJk
  have HYy:=aa hy
  have hT2:y.l.length≤9223372036854775807:=by have:=l2;unfold maxLen at this;omega
  clear hbY hbG hbT hJk hq1 hq2 hv hJ0 bY bG bT
  gi_wp2
  gi_loopw [20] (fun p wr=> ∃(i:Nat),i≤y.l.length∧p= .int .i64 i∧J ((behind (L.take k) t).length+i) wr∧Boxed wr W.heap.size 156 (.func (.yield l) #[] #[])∧Boxed wr (W.heap.size+1) 86 (.pointer (some ⟨s,0,none⟩))∧Boxed wr (W.heap.size+1+1) 3 (.int .i64 (t:Int))∧Kk W0.heap.size S V wr)
   (fun p _=>y.l.length-(RowKit.intOf p).toNat)
  case atStart=>exact⟨0,by omega,rfl,HJk.out,HBY.out,HBG.out,HBT.out,Kk.refl _ _ _⟩
  case round=>
   obtain⟨i,hi,rfl,hJi,hbY,hbG,hbT,hkk⟩:=hrel
   by_cases hil:i<y.l.length
   ·have hil':(i:Int)<(y.l.length:Int):=by omega
    obtain⟨x,hx⟩: ∃x,y.l[i]? =some x:=⟨_,List.getElem?_eq_getElem hil⟩
    have hxb:=FL HYy.out hh hx
    obtain⟨_,_,hv⟩:=HJ.out _ _ hJi
    obtain⟨g2,e2,z0,z1,_,_,hcx⟩:=hv.ce k y HYy.out
    obtain⟨gg,e3,_,x0⟩:=hcx i x hx
    rw[hlv.out] at e3
    subst e3
    have bY:=hbY.cell
    have hplt:(behind (L.take k) t).length+i<(behind L t).length:=(List.getElem?_eq_some_iff.1 hxb).1
    obtain⟨fn,tmps,assign,body,hyy,hR⟩:=HY.out _ wr hplt hJi
    rw[hxb] at hyy
    simp only[Option.getD_some] at hyy
    have HHY:=aa hbY
    have HHG:=aa hbG
    have HHT:=aa hbT
    have HKK:=aa hkk
    have HX:=aa hx
    have HI:=aa (show i+1≤y.l.length from hil)
    have HM:=aa (show y.l.length-(i+1)<y.l.length-i by omega)
    clear hbY hbG hbT hkk hJi hv hplt hxb z0 z1 e2 hx hcx
    gi_wp2
    refine(zD hR).mono ?_
    rintro e W3 ⟨rfl,hJ3,hk3⟩
    have HA3:=aa (hk3.box (HS.out _ (by omega)) HHY.out)
    have HB3:=aa (hk3.box (HS.out _ (by omega)) HHG.out)
    have HC3:=aa (hk3.box (HS.out _ (by omega)) HHT.out)
    have HK3:=aa (HKK.out.trans (hk3.wide (by omega)))
    have HJ3:=aa hJ3
    clear hJ3 hk3 hyy hR HY
    gi_wp2
    go_roundw
    case rel=>exact⟨i+1,HI.out,by go_num,HJ3.out,HA3.out,HB3.out,HC3.out,HK3.out⟩
    case measure=>simp[RowKit.intOf];omega
   ·have hil': ¬(i:Int)<(y.l.length:Int):=by omega
    obtain rfl:i=y.l.length:=by omega
    have HJi:=aa hJi
    have HA5:=aa hbY
    have HB5:=aa hbG
    have HC5:=aa hbT
    have HK5:=aa hkk
    clear hJi hbY hbG hbT hkk
    gi_wp2
    rw[hsz] at HK5
    refine⟨HK5.out,?_,HA5.out,HB5.out,HC5.out⟩
    rw[uI HYy.out hh,List.length_append]
    exact HJi.out
 case done=>
  rintro D V hD ⟨hJm,_⟩ hK
  gi_wp2
  refine⟨by simp,.inl ⟨_,_,rfl,run_takeDeferred hK,?_⟩⟩
  refine⟨_,results_none rfl _ _ _,⟨_,rfl⟩,?_⟩
  rw[←hend]
  exact HA.out.pu _ _ _ _ _ (by omega) hK rfl hJm
end Go.Proofs.YtdbailcdlngemaaGreatDoor.Pi
namespace Go.Proofs.YtdbailcdlngemaaGreatDoor.Pi
open Go.Proofs.YtdbailcdlngemaaGreatDoor.Ke
open Go.Shelf
open Go.RowKit hiding Hid
theorem Fg (w:World) (o1 o2 o3 o4 o5:Obj):Below w.heap.size w (((((w.alloc o1).alloc o2).alloc o3).alloc o4).alloc o5):=
 ((((((Below.refl _ _).alloc (Nat.le_refl _) _).alloc (by simp) _).alloc (by simp;omega) _).alloc (by simp;omega) _).alloc (by simp;omega) _)
theorem D9 (w:World) (a b:K):Calls Tryz.prog 121 #[.agg #[.bool a.e,.int .u64 a.d,.int .u8 a.l],.agg #[.bool b.e,.int .u64 b.d,.int .u8 b.l]] w fun e w'=>e= .returned (.agg #[.bool (dO a b).e,.int .u64 (dO a b).d,.int .u8 (dO a b).l])∧ ∃c1 c2 c3 c4 c5,w'=(((((w.alloc (.cells c1 130)).alloc (.cells c2 130)).alloc (.cells c3 130)).alloc (.cells c4 130)).alloc (.cells c5 130)):=by
 have HA:=aa (fun w=>ru w b a)
 unfold dO
 cases hu:up b a<;>rw[hu] at HA<;>
 (go_enter Tryz.func121,Tryz.ntmps121
  go_wp2_with (go_at_call 101;refine(HA.out _).mono ?_;rintro e w1 ⟨rfl,c1,c2,rfl⟩)
  simp[bodyPost,results,Tryz.results121,go_sem]
  exact⟨_,_,_,_,_,rfl⟩)
theorem FE (w:World) (a b:K):Calls Tryz.prog 121 #[.agg #[.bool a.e,.int .u64 a.d,.int .u8 a.l],.agg #[.bool b.e,.int .u64 b.d,.int .u8 b.l]] w fun e w'=>e= .returned (.agg #[.bool (dO a b).e,.int .u64 (dO a b).d,.int .u8 (dO a b).l])∧Below w.heap.size w w':=
 (D9 w a b).mono fun e w' ⟨h,c1,c2,c3,c4,c5,hw⟩=>⟨h,by rw[hw];exact Fg _ _ _ _ _ _⟩
structure Vf (T:List Th) (L:List Lk):Prop where
 ac:yi L
 lt: ∀y∈L,∀t∈y.l,t<T.length
 l2:L.length≤32
 t2:T.length≤1024
theorem lX.vf {T:List Th} {L:List Lk} (f:lX T L):Vf T L:=⟨f.ac,fun y hy=>(f.lk y hy).2.2.1,f.l2,f.t2⟩
noncomputable def eP (T:List Th) (L:List Lk) (t n:Nat):K:=((behind L t).take n).foldl (fun k x=>dO k (keyOf T L x)) (gO T t)
theorem vN {T:List Th} {L:List Lk} (h:yi L) (t:Nat):eP T L t (behind L t).length=keyOf T L t:=by unfold eP;rw[List.take_length,yE h]
theorem tV {T:List Th} {L:List Lk} {t n x:Nat} (hx:(behind L t)[n]? =some x):eP T L t (n+1)=dO (eP T L t n) (keyOf T L x):=by
 unfold eP
 rw[kB hx,List.foldl_append]
 rfl
def dG (V:World) (b:Nat) (k:K):Prop:=V.heap[b]? =some (.cells #[.bool k.e,.int .u64 k.d,.int .u8 k.l] 130 (0,0))
theorem dG.lt {V:World} {b:Nat} {k:K} (h:dG V b k):b<V.heap.size:=(Array.getElem?_eq_some_iff.1 h).1
theorem dG.alloc {V:World} {b:Nat} {k:K} (h:dG V b k) (o:Obj):dG (V.alloc o) b k:=(Below.heap_alloc _ _ _ h.lt).trans h
theorem dG.below {V V':World} {b:Nat} {k:K} (h:dG V b k) (hb:Below V.heap.size V V'):dG V' b k:=(hb.block b h.lt).trans h
theorem dG.put {V:World} {b l:Nat} {k:K} {o o':Obj} (h:dG V b k) (ho:V.heap[l]? =some o) (hc:o.isCells=false):dG (V.putObj l o') b k:=by
 refine(World.putObj_heap_other (fun e=> ?_)).trans h
 subst e
 rw[show V.heap[b]? =_ from h] at ho
 obtain rfl:=Option.some.inj ho
 cases hc
theorem dG.at {V:World} {b:Nat} {k:K} (h:dG V b k):At V b k:=by
 refine⟨?_,?_,?_⟩<;>(unfold World.cell?;rw[show V.heap[b]? =_ from h];rfl)
theorem dG.frozen {V:World} {b:Nat} {k:K} (h:dG V b k) (o:Nat):V.frozen? ⟨b,o,none⟩=false:=by unfold World.frozen?;simp[show V.heap[b]? =_ from h]
theorem dG.set {V:World} {b:Nat} {k:K} (h:dG V b k) (k':K):dG (((V.setCell ⟨b,0,none⟩ (.bool k'.e)).setCell ⟨b,1,none⟩ (.int .u64 k'.d)).setCell ⟨b,2,none⟩ (.int .u8 k'.l)) b k':=by
 have h1:=Go.Joins.block_setCell h (i:=0) (.bool k'.e)
 have h2:=Go.Joins.block_setCell h1 (i:=1) (.int .u64 k'.d)
 have h3:=Go.Joins.block_setCell h2 (i:=2) (.int .u8 k'.l)
 exact h3
attribute [local go_sem] Oper.semAt_some
def cV (ops:Array Oper):Bool:=ops.all fun o=>match o.op with
 | .defer _=>false
 |_=>true
theorem fo {ops:Array Oper} (h:cV ops=true) {i:Nat} {o:Oper} (ho:ops[i]? =some o): ∀c,o.op≠ .defer c:=by
 intro c e
 unfold cV at h
 rw[Array.all_eq_true'] at h
 have:=h o (Array.mem_of_getElem? ho)
 rw[e] at this
 exact absurd this (by simp)
theorem fj {P:Program} {o:Oper} {a:Act} {w:World} {K:Act→World→Prop} {Q:Exit→Act→World→Prop} {l n:Nat} (hd: ∀c,o.op≠ .defer c) (h:o.wp P a w K Q):o.wpIn (Fence.wide.inRound l) n P a w K Q:=by
 refine⟨fun _ _=>trivial,?_⟩
 rw[Oper.semAt_eq _ _ _ hd]
 unfold Oper.wp at h
 revert h
 generalize (execOp a.eval o).run P w=r
 intro h
 match r,h with
 | .ok (.value _) _,h=>exact h
 | .ok .skip _,h=>exact h
 | .ok (.defer _) _,h=>exact h
 | .ok (.enter f args) w',h=>exact⟨fun q=>absurd q (by simp[Fence.inRound,Fence.wide]),CallsIn.inRound l (callsIn_wide.2 h)⟩
 | .ok (.row row args) w',h=>
  refine⟨fun q=>absurd q (by simp[Fence.inRound,Fence.wide]),fun c cs _=> ?_⟩
  obtain⟨v,w'',r1,s⟩:=h c cs
  exact⟨v,w'',r1,stepsIn_wide.2 s⟩
 | .halt (.panic _) _,h=>exact h
theorem bP {P:Program} {md:Region.Mode} {ops:Array Oper} {Q:Exit→Act→World→Prop} {l n:Nat} (hd:cV ops=true) (hlo: ¬LetsOut Q): ∀(fuel:Nat) (listed:Array Bool) (a:Act) (w:World),wpAny P md ops Q fuel listed a w→wpAnyIn (Fence.wide.inRound l) n P md ops Q fuel listed a w
 |0,_,_,_,h=>h
 |fuel+1,_,a,w,h=>⟨h.1,fun i hi=>by
  have h2:=h.2 i hi
  unfold wpOp at h2
  unfold wpOpIn
  cases ho:ops[i]? with
  |none=>rw[ho] at h2;exact bP hd hlo fuel _ _ _ h2
  |some o=>
   rw[ho] at h2
   dsimp only at h2⊢
   by_cases hw:Region.wanted o (yielded ops a.tmps)=true
   ·rw[if_pos hw] at h2⊢
    rcases h2 with h2|h2
    ·exact fj (fo hd ho) (Oper.wp_mono (fun a w q=>bP hd hlo fuel _ a w q) h2)
    ·exact absurd h2.2 hlo
   ·rw[if_neg hw] at h2⊢
    exact⟨fun _ _=>trivial,bP hd hlo fuel _ _ _ h2⟩⟩
theorem bF {P:Program} {id:Nat} {ops:Array Oper} {Q:Exit→Act→World→Prop} {l n:Nat} {a:Act} {w:World} (S:World→Prop) (hm:P.follows .mixedOrders=true) (hd:cV ops=true) (hlo: ¬LetsOut Q) (hS:S w.drew)
  (h:S w.drew→wpAnyH P .any ops Q S ops.size (Array.replicate ops.size false) a w.drew):(Code.region id ops true).wpIn (Fence.wide.inRound l) n P Q a w:=
 wpIn_region_any hm (bP hd hlo _ _ _ _ (wpAny_of_held _ _ _ _ (h hS)))
theorem Db (s gt ct:Nat) (a:Option Addr) (cap:Nat) (ln:Nat→Option Addr×Nat) (T:List Th) (L:List Lk) (f:Vf T L) (r:Nat→Nat) (hr: ∀t s,Edge L t s→r t<r s): ∀(m t:Nat),r t<m→t<T.length→ ∀(n0 B1 B2:Nat) (W:World),n0≤W.heap.size→Vw n0 W s gt ct a cap ln T L→
  Boxed W B1 86 (.pointer (some ⟨s,0,none⟩))→Boxed W B2 203 (.func (.func 119) #[] #[.pointer (some ⟨B1,0,none⟩),.pointer (some ⟨B2,0,none⟩)])→
  CallsIn Fence.wide 10 Tryz.prog 119 #[.int .i64 (t:Int),.pointer (some ⟨B1,0,none⟩),.pointer (some ⟨B2,0,none⟩)] W fun e W'=>e= .returned (.agg #[.bool (keyOf T L t).e,.int .u64 (keyOf T L t).d,.int .u8 (keyOf T L t).l])∧Below W.heap.size W W':=by
 intro m
 induction m with
 |zero=>
  intro t hm
  omega
 |succ m ih=>
  intro t hm ht n0 B1 B2 W hn0 hv hb1 hb2
  have ht':(t:Int)<(T.length:Int):=by omega
  obtain⟨x,hx⟩: ∃x,T[t]? =some x:=⟨_,List.getElem?_eq_getElem ht⟩
  have b1:=hb1.cell
  have l1:=hb1.lt
  have l2:=hb2.lt
  have c0:=hv.t.c0
  have le:=hv.t.le
  obtain⟨x0,x1,x2,x3⟩:=hv.t.ce t x hx
  have lg:gt<W.heap.size:=by have:=hv.tl;omega
  have ls:s<W.heap.size:=by have:=hv.sl;omega
  have n1: ¬B1=W.heap.size:=by omega
  have HV:=aa hv
  have HB1:=aa hb1
  have HB2:=aa hb2
  have HIH:=aa ih
  have HX:=aa hx
  clear hv hb1 hb2 ih hx
  refine callsIn_of_wp_marks Tryz.func119 rfl trivial ?_ rfl
  simp only[Tryz.ntmps119,List.size_toArray,List.length_cons,List.length_nil,Nat.reduceAdd,Nat.reduceSub,Array.replicate_succ,Array.replicate_zero,List.push_toArray,List.append_toArray,List.nil_append,List.cons_append]
  gi_wp2_with (refine⟨trivial,?_⟩;gi_at_call 120;refine(wX _ s (t:Int) _).mono ?_;rintro e w' ⟨rfl,rfl⟩)
  have eown:gO T t=x.k:=by unfold gO;rw[HX.out];rfl
  have bR:=(((dG.alloc (V:=W.alloc (.cells #[.bool false,.int .u64 0,.int .u8 0] 130)) (b:=W.heap.size) (k:=br 0) (World.alloc_heap_new W _) (.cells #[.bool x.k.e,.int .u64 x.k.d,.int .u8 x.k.l] 130))).alloc (.cells #[.pointer (some ⟨s,0,none⟩)] 86)).alloc (.cells #[.int .i64 (t:Int)] 3)
  have bK:dG ((((W.alloc (.cells #[.bool false,.int .u64 0,.int .u8 0] 130)).alloc (.cells #[.bool x.k.e,.int .u64 x.k.d,.int .u8 x.k.l] 130)).alloc (.cells #[.pointer (some ⟨s,0,none⟩)] 86)).alloc (.cells #[.int .i64 (t:Int)] 3)) (W.heap.size+1) x.k:=by
   refine dG.alloc (dG.alloc ?_ _) _
   have:=World.alloc_heap_new (W.alloc (.cells #[.bool false,.int .u64 0,.int .u8 0] 130)) (.cells #[.bool x.k.e,.int .u64 x.k.d,.int .u8 x.k.l] 130)
   rw[World.size_alloc] at this
   exact this
  have bG:=(Boxed.new ((W.alloc (.cells #[.bool false,.int .u64 0,.int .u8 0] 130)).alloc (.cells #[.bool x.k.e,.int .u64 x.k.d,.int .u8 x.k.l] 130)) 86 (.pointer (some ⟨s,0,none⟩))).alloc (.cells #[.int .i64 (t:Int)] 3)
  have bT:=Boxed.new (((W.alloc (.cells #[.bool false,.int .u64 0,.int .u8 0] 130)).alloc (.cells #[.bool x.k.e,.int .u64 x.k.d,.int .u8 x.k.l] 130)).alloc (.cells #[.pointer (some ⟨s,0,none⟩)] 86)) 3 (.int .i64 (t:Int))
  have hbe:Below W.heap.size W ((((W.alloc (.cells #[.bool false,.int .u64 0,.int .u8 0] 130)).alloc (.cells #[.bool x.k.e,.int .u64 x.k.d,.int .u8 x.k.l] 130)).alloc (.cells #[.pointer (some ⟨s,0,none⟩)] 86)).alloc (.cells #[.int .i64 (t:Int)] 3)):=((((Below.refl _ W).alloc (Nat.le_refl _) _).alloc (by simp) _).alloc (by simp;omega) _).alloc (by simp;omega) _
  have hsz:((((W.alloc (.cells #[.bool false,.int .u64 0,.int .u8 0] 130)).alloc (.cells #[.bool x.k.e,.int .u64 x.k.d,.int .u8 x.k.l] 130)).alloc (.cells #[.pointer (some ⟨s,0,none⟩)] 86)).alloc (.cells #[.int .i64 (t:Int)] 3)).heap.size=W.heap.size+4:=by simp
  simp only[World.size_alloc] at bG bT⊢
  generalize ((((W.alloc (.cells #[.bool false,.int .u64 0,.int .u8 0] 130)).alloc (.cells #[.bool x.k.e,.int .u64 x.k.d,.int .u8 x.k.l] 130)).alloc (.cells #[.pointer (some ⟨s,0,none⟩)] 86)).alloc (.cells #[.int .i64 (t:Int)] 3))=W0 at hsz bR bK bG bT hbe⊢
  have hA:FT W0.heap.size (fun n V=>dG V W.heap.size (br 0)∧dG V (W.heap.size+1) (eP T L t n)∧Boxed V (W.heap.size+1+1) 86 (.pointer (some ⟨s,0,none⟩))∧Boxed V (W.heap.size+1+1+1) 3 (.int .i64 (t:Int))∧Below W.heap.size W V):=by
   refine⟨fun k V o h=>⟨h.1.alloc _,h.2.1.alloc _,h.2.2.1.alloc _,h.2.2.2.1.alloc _,h.2.2.2.2.alloc h.2.2.2.2.size _⟩,fun k V q o o' hq ho hc h=>⟨h.1.put ho hc,h.2.1.put ho hc,jV h.2.2.1 ho hc,jV h.2.2.2.1 ho hc,?_⟩⟩
   have hz:=h.2.2.2.2
   exact⟨hz.os,hz.tape,hz.output,by have:=hz.size;simpa [World.putObj] using this,fun b hb=>(World.putObj_heap_other (by omega)).trans (hz.block b hb)⟩
  refine yh (gf:=159) (lb:= #[.pointer (some ⟨W.heap.size+1+1,0,none⟩),.pointer (some ⟨W.heap.size+1+1+1,0,none⟩)]) rfl (enters_of Tryz.func159 (by kernel_rfl) rfl)
   (fun n V=>dG V W.heap.size (br 0)∧dG V (W.heap.size+1) (eP T L t n)∧Boxed V (W.heap.size+1+1) 86 (.pointer (some ⟨s,0,none⟩))∧Boxed V (W.heap.size+1+1+1) 3 (.int .i64 (t:Int))∧Below W.heap.size W V)
   (fun _=>False) (fun n=>n<(behind L t).length) (fun n=> .int .i64 (((behind L t)[n]?.getD 0:Nat):Int)) (behind L t).length
   (fun n=>{tmps:= #[.int .i64 (t:Int),.pointer (some ⟨B1,0,none⟩),.pointer (some ⟨B2,0,none⟩),undef,.pointer (some ⟨W.heap.size,0,none⟩),.pointer (some ⟨W.heap.size+1,0,none⟩),.int .i64 (((behind L t)[n]?.getD 0:Nat):Int),.pointer (some ⟨s,0,none⟩),.pointer (some ⟨s,0,none⟩),.pointer (some ⟨s,0,none⟩),.slice (some ⟨gt,0,none⟩) T.length ct,.int .i64 (t:Int),.pointer (some ⟨gt,t*4,none⟩),.pointer (some ⟨gt,t*4,none⟩),.agg #[.bool x.k.e,.int .u64 x.k.d,.int .u8 x.k.l],.pointer (some ⟨s,0,none⟩),.int .i64 (t:Int),.func (.func 159) #[] #[.pointer (some ⟨W.heap.size+1+1,0,none⟩),.pointer (some ⟨W.heap.size+1+1+1,0,none⟩)],.int .i64 (((behind L t)[n]?.getD 0:Nat):Int),undef,undef,undef,undef,undef,undef],defers:=[]})
   (fun b=>b=W.heap.size+1) hA (fun _ _ h=>h.elim) ⟨bR,by unfold eP;simpa [eown] using bK,bG,bT,hbe⟩ ?hit ?assign ?body ?done
  case hit=>
   intro l' J' W1 h1 h2 h3 h4 h5 h6
   exact nP l' _ _ s gt ct a cap ln n0 T L t W1.heap.size J' (fun b=>b=W.heap.size+1) f.l2 (fun b hb=>by omega) (fun k V h=>⟨(h1 k V h).2.2.1,(h1 k V h).2.2.2.1,HV.out.below ((h1 k V h).2.2.2.2.mono hn0)⟩) h2 (fun k V hk h=>h4 k V hk h) W1 (Nat.le_refl _) h5
  case assign=>
   intro l' k V K hK
   gi_wp2
   exact hK
  case body=>
   rintro l' n V hn ⟨hR,hK,hG,hT,hB⟩
   obtain⟨y,hy⟩: ∃y,(behind L t)[n]? =some y:=⟨_,List.getElem?_eq_getElem hn⟩
   rw[hy,Option.getD_some]
   have hed:Edge L y t:=gv.1 (List.mem_of_getElem? hy)
   have hyl:y<T.length:=by obtain⟨z,hz,hzl,_⟩:=hed;exact f.lt z hz y hzl
   have hry:r y<m:=by have:=hr y t hed;omega
   have k0:=hK.at.1
   have k1:=hK.at.2.1
   have k2:=hK.at.2.2
   have HW:Hid (∀V',Below V.heap.size V V'→Calls Tryz.prog 119 #[.int .i64 (y:Int),.pointer (some ⟨B1,0,none⟩),.pointer (some ⟨B2,0,none⟩)] V' fun e W'=>e= .returned (.agg #[.bool (keyOf T L y).e,.int .u64 (keyOf T L y).d,.int .u8 (keyOf T L y).l])∧Below V'.heap.size V' W'):=by
    intro V' hV'
    have hb':Below W.heap.size W V':=hB.trans (hV'.mono hB.size)
    exact(callsIn_wide.1 (HIH.out y hry hyl n0 B1 B2 V' (Nat.le_trans hn0 hb'.size) (HV.out.below (hb'.mono hn0)) ((hb'.block B1 l1).trans HB1.out) ((hb'.block B2 l2).trans HB2.out)))
   have hb2V:Boxed V B2 203 (.func (.func 119) #[] #[.pointer (some ⟨B1,0,none⟩),.pointer (some ⟨B2,0,none⟩)]):=(hB.block B2 l2).trans HB2.out
   have b2:=hb2V.cell
   have HMx:Hid (∀V',Calls Tryz.prog 121 #[.agg #[.bool (eP T L t n).e,.int .u64 (eP T L t n).d,.int .u8 (eP T L t n).l],.agg #[.bool (keyOf T L y).e,.int .u64 (keyOf T L y).d,.int .u8 (keyOf T L y).l]] V' fun e W'=>e= .returned (.agg #[.bool (dO (eP T L t n) (keyOf T L y)).e,.int .u64 (dO (eP T L t n) (keyOf T L y)).d,.int .u8 (dO (eP T L t n) (keyOf T L y)).l])∧Below V'.heap.size V' W'):=fun V'=>FE V' _ _
   have HN:=aa (tV (T:=T) hy)
   generalize eP T L t n=kn at HMx HN hK k0 k1 k2
   generalize keyOf T L y=ky at HW HMx HN
   have fz:=hK.frozen
   have HR:=aa hR
   have HK:=aa hK
   have HG:=aa hG
   have HT:=aa hT
   have HB:=aa hB
   clear hR hK hG hT hB hb2V
   have lB2:B2<V.heap.size:=by have:=HB.out.size;omega
   have hB2n:B2≠W.heap.size+1:=by omega
   have HFin:Hid (∀V2,Below V.heap.size V V2→(fun V3=>dG V3 W.heap.size (br 0)∧dG V3 (W.heap.size+1) (eP T L t (n+1))∧Boxed V3 (W.heap.size+1+1) 86 (.pointer (some ⟨s,0,none⟩))∧Boxed V3 (W.heap.size+1+1+1) 3 (.int .i64 (t:Int))∧Below W.heap.size W V3)
     (((V2.setCell ⟨W.heap.size+1,0,none⟩ (.bool (dO kn ky).e)).setCell ⟨W.heap.size+1,1,none⟩ (.int .u64 (dO kn ky).d)).setCell ⟨W.heap.size+1,2,none⟩ (.int .u8 (dO kn ky).l))):=by
    intro V2 hb2
    have e: ∀b,b≠W.heap.size+1→(((V2.setCell ⟨W.heap.size+1,0,none⟩ (.bool (dO kn ky).e)).setCell ⟨W.heap.size+1,1,none⟩ (.int .u64 (dO kn ky).d)).setCell ⟨W.heap.size+1,2,none⟩ (.int .u8 (dO kn ky).l)).heap[b]? =V2.heap[b]? :=fun b hb=>by
     rw[Below.heap_setCell _ _ _ _ hb,Below.heap_setCell _ _ _ _ hb,Below.heap_setCell _ _ _ _ hb]
    refine⟨(e _ (by omega)).trans (HR.out.below hb2),?_,(e _ (by omega)).trans ((hb2.block _ HG.out.lt).trans HG.out),(e _ (by omega)).trans ((hb2.block _ HT.out.lt).trans HT.out),?_⟩
    ·rw[HN.out]
     exact(HK.out.below hb2).set _
    ·exact(((HB.out.trans (hb2.mono HB.out.size)).setCell (p:=⟨W.heap.size+1,0,none⟩) (by simp) _).setCell (p:=⟨W.heap.size+1,1,none⟩) (by simp) _).setCell (p:=⟨W.heap.size+1,2,none⟩) (by simp) _
   gi_wp2
   refine bF (fun w'=>w'.cell? ⟨B2,0,none⟩=some (.func (.func 119) #[] #[.pointer (some ⟨B1,0,none⟩),.pointer (some ⟨B2,0,none⟩)])) (by kernel_rfl) (by kernel_rfl) (by rintro⟨a,w,h⟩;exact absurd (show Exit.outgrown=Exit.normal from h.1) (by simp)) b2 (fun hHeld=> ?_)
   refine aF 1 (v:= ?_) rfl ?v1 ?_
   case v1=>(intro w hSw;(try dsimp only at hSw);go_simp;try with_reducible rfl)
   try simp only[ao]
   refine aF 2 (v:= ?_) rfl ?v2 ?_
   case v2=>(intro w hSw;(try dsimp only at hSw);go_simp;try with_reducible rfl)
   try simp only[ao]
   refine wpAnyH_ready (rs:=[0,3]) (by kernel_rfl) (by simp) ?_
   refine AllReadyH.cons rfl (fun K hK=> ?_) (AllReadyH.cons rfl (fun K hK=> ?_) AllReadyH.nil)
   ·skip
    go_simp
    refine hK.out _ _ ?_ (fun hHeld=> ?_)
    ·exact hHeld
    clear hK K
    try simp only[ao]
    refine bc 3 rfl (fun K hK=> ?_)
    go_simp
    go_at_call 119
    refine(HW.out _ ((Below.refl _ V).drew)).mono ?_
    rintro e V1 ⟨rfl,hb⟩
    have hb1:Below V.heap.size V V1:=((Below.refl _ V).drew).trans hb
    clear hb
    have HB1V:=aa hb1
    have j0:=(HK.out.below hb1).at.1
    have j1:=(HK.out.below hb1).at.2.1
    have j2:=(HK.out.below hb1).at.2.2
    have q1:=(hb1.cell (p:=⟨B2,0,none⟩) lB2).trans b2
    clear hb1
    refine hK.out _ _ ?_ (fun hHeld=> ?_)
    ·exact q1
    clear hK K
    try simp only[ao]
    refine bc 4 rfl (fun K hK=> ?_)
    go_simp
    go_at_call 121
    refine(HMx.out _).mono ?_
    rintro e V2 ⟨rfl,hb⟩
    have hb2:Below V.heap.size V V2:=HB1V.out.trans (hb.mono HB1V.out.size)
    clear hb
    have HB2V:=aa hb2
    have hK2:=HK.out.below hb2
    have i0:=hK2.at.1
    have i1:=hK2.at.2.1
    have i2:=hK2.at.2.2
    have fz2:=hK2.frozen
    have q2:=(hb2.cell (p:=⟨B2,0,none⟩) lB2).trans b2
    have HK2:=aa hK2
    clear hb2 hK2
    refine hK.out _ _ ?_ (fun hHeld=> ?_)
    ·exact q2
    clear hK K
    try simp only[ao]
    refine bc 5 rfl (fun K hK=> ?_)
    go_simp
    refine hK.out _ _ ?_ (fun hHeld=> ?_)
    ·exact(World.cell?_of_block (by rw[Below.heap_setCell _ _ _ _ hB2n,Below.heap_setCell _ _ _ _ hB2n,Below.heap_setCell _ _ _ _ hB2n])).trans q2
    clear hK K
    try simp only[ao]
    refine wpAnyH_done (by kernel_rfl) ?_ _
    exact⟨rfl,(((Kk.below (S:=fun b=>b=W.heap.size+1) HB2V.out).setCell (a:=⟨W.heap.size+1,0,none⟩) rfl _).setCell (a:=⟨W.heap.size+1,1,none⟩) rfl _).setCell (a:=⟨W.heap.size+1,2,none⟩) rfl _,HFin.out V2 HB2V.out⟩
   ·skip
    go_simp
    go_at_call 119
    refine(HW.out _ ((Below.refl _ V).drew)).mono ?_
    rintro e V1 ⟨rfl,hb⟩
    have hb1:Below V.heap.size V V1:=((Below.refl _ V).drew).trans hb
    clear hb
    have HB1V:=aa hb1
    have j0:=(HK.out.below hb1).at.1
    have j1:=(HK.out.below hb1).at.2.1
    have j2:=(HK.out.below hb1).at.2.2
    have q1:=(hb1.cell (p:=⟨B2,0,none⟩) lB2).trans b2
    clear hb1
    refine hK.out _ _ ?_ (fun hHeld=> ?_)
    ·exact q1
    clear hK K
    try simp only[ao]
    refine bc 0 rfl (fun K hK=> ?_)
    go_simp
    refine hK.out _ _ ?_ (fun hHeld=> ?_)
    ·exact hHeld
    clear hK K
    try simp only[ao]
    refine bc 4 rfl (fun K hK=> ?_)
    go_simp
    go_at_call 121
    refine(HMx.out _).mono ?_
    rintro e V2 ⟨rfl,hb⟩
    have hb2:Below V.heap.size V V2:=HB1V.out.trans (hb.mono HB1V.out.size)
    clear hb
    have HB2V:=aa hb2
    have hK2:=HK.out.below hb2
    have i0:=hK2.at.1
    have i1:=hK2.at.2.1
    have i2:=hK2.at.2.2
    have fz2:=hK2.frozen
    have q2:=(hb2.cell (p:=⟨B2,0,none⟩) lB2).trans b2
    have HK2:=aa hK2
    clear hb2 hK2
    refine hK.out _ _ ?_ (fun hHeld=> ?_)
    ·exact q2
    clear hK K
    try simp only[ao]
    refine bc 5 rfl (fun K hK=> ?_)
    go_simp
    refine hK.out _ _ ?_ (fun hHeld=> ?_)
    ·exact(World.cell?_of_block (by rw[Below.heap_setCell _ _ _ _ hB2n,Below.heap_setCell _ _ _ _ hB2n,Below.heap_setCell _ _ _ _ hB2n])).trans q2
    clear hK K
    try simp only[ao]
    refine wpAnyH_done (by kernel_rfl) ?_ _
    exact⟨rfl,(((Kk.below (S:=fun b=>b=W.heap.size+1) HB2V.out).setCell (a:=⟨W.heap.size+1,0,none⟩) rfl _).setCell (a:=⟨W.heap.size+1,1,none⟩) rfl _).setCell (a:=⟨W.heap.size+1,2,none⟩) rfl _,HFin.out V2 HB2V.out⟩
  case done=>
   rintro D V hD ⟨hR,hK,hG,hT,hB⟩ hD2
   rw[vN f.ac] at hK
   have k0:=hK.at.1
   have k1:=hK.at.2.1
   have k2:=hK.at.2.2
   have fz:=hR.frozen
   have r0:=hR.at.1
   have r1:=hR.at.2.1
   have r2:=hR.at.2.2
   have HR:=aa hR
   have HB:=aa hB
   clear hR hK hG hT hB
   gi_wp2
   have hR3:=HR.out.set (keyOf T L t)
   have hD3: ∀b,b≠W.heap.size→(((V.setCell ⟨W.heap.size,0,none⟩ (.bool (keyOf T L t).e)).setCell ⟨W.heap.size,1,none⟩ (.int .u64 (keyOf T L t).d)).setCell ⟨W.heap.size,2,none⟩ (.int .u8 (keyOf T L t).l)).heap[b]? =V.heap[b]? :=fun b hb=>by
    rw[Below.heap_setCell _ _ _ _ hb,Below.heap_setCell _ _ _ _ hb,Below.heap_setCell _ _ _ _ hb]
   have hK1:=(hD3 D (by omega)).trans hD2
   refine⟨by simp,.inl ⟨_,_,rfl,run_takeDeferred hK1,?_⟩⟩
   have hA5:=hR3.put (o':= .deferred none) hK1 rfl
   have d0:=hA5.at.1
   have d1:=hA5.at.2.1
   have d2:=hA5.at.2.2
   refine⟨.agg #[.bool (keyOf T L t).e,.int .u64 (keyOf T L t).d,.int .u8 (keyOf T L t).l],?_,rfl,?_⟩
   ·simp[results,Tryz.f119,go_sem,d0,d1,d2]
   ·refine(((HB.out.setCell (p:=⟨W.heap.size,0,none⟩) (by simp) (.bool (keyOf T L t).e)).setCell (p:=⟨W.heap.size,1,none⟩) (by simp) (.int .u64 (keyOf T L t).d)).setCell (p:=⟨W.heap.size,2,none⟩) (by simp) (.int .u8 (keyOf T L t).l)).trans ?_
    exact belowK_b (w:=W) (Nat.le_refl _) _ D _ _ (by omega) hK1 rfl rfl
end Go.Proofs.YtdbailcdlngemaaGreatDoor.Pi
namespace Go.Proofs.YtdbailcdlngemaaGreatDoor.Pi
open Go.Proofs.YtdbailcdlngemaaGreatDoor.Ke
open Go.Lib
open Go.RowKit hiding Hid
noncomputable def di (T:List Th) (L:List Lk) (t:Int):K:=if oN T t then keyOf T L t.toNat else br 0
section
variable {w:World} {base s:Nat} {vt vl:Value} {V:List Value} {T:List Th} {L:List Lk} {n0 gt ct cap:Nat} {a:Option Addr} {ln:Nat→Option Addr×Nat}
theorem Af (h:Vw n0 w s gt ct a cap ln T L) (t:Int):Calls Tryz.prog 111 #[.pointer (some ⟨s,0,none⟩),.int .i64 t] w fun e w'=>e= .returned (.bool (oN T t))∧w'=w:=by
 have c0:=h.t.c0
 have hle:=h.t.le
 clear h
 unfold oN
 by_cases h0:0≤t
 ·go_enter Tryz.func111,Tryz.ntmps111
  go_wp2
  go_ret
  exact⟨by simp[h0],rfl⟩
 ·go_enter Tryz.func111,Tryz.ntmps111
  go_wp2
  go_ret
  exact⟨by simp;omega,rfl⟩
theorem Fa (h:Vw n0 w s gt ct a cap ln T L) (hn:n0≤w.heap.size) (t:Int) (ht:oN T t=false):Calls Tryz.prog 85 #[.pointer (some ⟨s,0,none⟩),.int .i64 t] w fun e w'=>e= .returned (.agg #[.bool (br 0).e,.int .u64 (br 0).d,.int .u8 (br 0).l])∧Below w.heap.size w w':=by
 have HT:=aa (fun w' (hb:Below w.heap.size w w')=>Af (h.below (hb.mono hn)) t)
 simp only[ht] at HT
 clear h ht hn
 go_enter Tryz.func85,Tryz.ntmps85
 go_wp2_with (go_at_call 111;refine(HT.out _ (by first|exact Below.refl _ _|exact(Below.refl _ _).alloc (Nat.le_refl _) _|exact((Below.refl _ _).alloc (Nat.le_refl _) _).alloc (by simp) _)).mono ?_;rintro e w1 ⟨rfl,hw⟩;subst hw)
 simp[bodyPost,results,Tryz.results85,go_sem,br]
 exact((Below.refl _ _).alloc (Nat.le_refl _) _).alloc (by simp) _
theorem Dm (h:Vw n0 w s gt ct a cap ln T L) (f:Vf T L) (hn:n0≤w.heap.size) (t:Nat) (ht:t<T.length):Calls Tryz.prog 85 #[.pointer (some ⟨s,0,none⟩),.int .i64 (t:Int)] w fun e w'=>e= .returned (.agg #[.bool (keyOf T L t).e,.int .u64 (keyOf T L t).d,.int .u8 (keyOf T L t).l])∧Below w.heap.size w w':=by
 have ht':oN T (t:Int)=true:=by unfold oN;simp;omega
 have HT:=aa (fun w' (hb:Below w.heap.size w w')=>Af (h.below (hb.mono hn)) (t:Int))
 simp only[ht'] at HT
 obtain⟨B,r,hb,hr⟩:=f.ac
 have HM:=aa (fun B1 B2 W' (hb:Below w.heap.size w W') h1 h2=>callsIn_wide.1 (Db s gt ct a cap ln T L f r hr (r t+1) t (by omega) ht n0 B1 B2 W' (Nat.le_trans hn hb.size) (h.below (hb.mono hn)) h1 h2))
 clear h ht' hn hb hr
 have HB1:=aa (((Boxed.new w 86 (.pointer (some ⟨s,0,none⟩))).alloc (.cells #[.bool false,.int .u64 0,.int .u8 0] 130)).alloc (.cells #[.func (.func 119) #[] #[.pointer (some ⟨w.heap.size,0,none⟩),.pointer (some ⟨w.heap.size+1+1,0,none⟩)]] 203))
 have HB2:Hid (Boxed (((w.alloc (.cells #[.pointer (some ⟨s,0,none⟩)] 86)).alloc (.cells #[.bool false,.int .u64 0,.int .u8 0] 130)).alloc (.cells #[.func (.func 119) #[] #[.pointer (some ⟨w.heap.size,0,none⟩),.pointer (some ⟨w.heap.size+1+1,0,none⟩)]] 203)) (w.heap.size+1+1) 203 (.func (.func 119) #[] #[.pointer (some ⟨w.heap.size,0,none⟩),.pointer (some ⟨w.heap.size+1+1,0,none⟩)])):=by
  have:=Boxed.new ((w.alloc (.cells #[.pointer (some ⟨s,0,none⟩)] 86)).alloc (.cells #[.bool false,.int .u64 0,.int .u8 0] 130)) 203 (.func (.func 119) #[] #[.pointer (some ⟨w.heap.size,0,none⟩),.pointer (some ⟨w.heap.size+1+1,0,none⟩)])
  simp only[World.size_alloc] at this
  exact this
 have hbe:Below w.heap.size w (((w.alloc (.cells #[.pointer (some ⟨s,0,none⟩)] 86)).alloc (.cells #[.bool false,.int .u64 0,.int .u8 0] 130)).alloc (.cells #[.func (.func 119) #[] #[.pointer (some ⟨w.heap.size,0,none⟩),.pointer (some ⟨w.heap.size+1+1,0,none⟩)]] 203)):=(((Below.refl _ w).alloc (Nat.le_refl _) _).alloc (by simp) _).alloc (by simp;omega) _
 have HBE:=aa hbe
 have HRB:Hid (dG (((w.alloc (.cells #[.pointer (some ⟨s,0,none⟩)] 86)).alloc (.cells #[.bool false,.int .u64 0,.int .u8 0] 130)).alloc (.cells #[.func (.func 119) #[] #[.pointer (some ⟨w.heap.size,0,none⟩),.pointer (some ⟨w.heap.size+1+1,0,none⟩)]] 203)) (w.heap.size+1) (br 0)):=by
  refine dG.alloc ?_ _
  have:=World.alloc_heap_new (w.alloc (.cells #[.pointer (some ⟨s,0,none⟩)] 86)) (.cells #[.bool false,.int .u64 0,.int .u8 0] 130)
  rw[World.size_alloc] at this
  exact this
 have HM2:=aa (HM.out w.heap.size (w.heap.size+1+1) _ hbe HB1.out HB2.out)
 clear hbe HM HB1 HB2
 go_enter Tryz.func85,Tryz.ntmps85
 go_wp2_with (first
  |(go_at_call 111;refine(HT.out _ (by first|exact Below.refl _ _|exact(Below.refl _ _).alloc (Nat.le_refl _) _|exact((Below.refl _ _).alloc (Nat.le_refl _) _).alloc (by simp) _)).mono ?_;rintro e w1 ⟨rfl,hw⟩;subst hw)
  |(go_at_call 119;refine(HM2.out).mono ?_;rintro e w1 ⟨rfl,hb1⟩;have hkb:=HRB.out.below hb1;have r0:=hkb.at.1;have r1:=hkb.at.2.1;have r2:=hkb.at.2.2;have fz:=hkb.frozen;replace hb1:=aa hb1;replace hkb:=aa hkb))
 have hset:=(hkb.out.set (keyOf T L t)).at
 have d0:=hset.1
 have d1:=hset.2.1
 have d2:=hset.2.2
 simp[bodyPost,results,Tryz.results85,go_sem,d0,d1,d2]
 have hb3:Below w.heap.size w w1:=HBE.out.trans (hb1.out.mono HBE.out.size)
 exact((hb3.setCell (p:=⟨w.heap.size+1,0,none⟩) (by simp) _).setCell (p:=⟨w.heap.size+1,1,none⟩) (by simp) _).setCell (p:=⟨w.heap.size+1,2,none⟩) (by simp) _
theorem F6 (h:Vw n0 w s gt ct a cap ln T L) (f:Vf T L) (hn:n0≤w.heap.size) (t:Int):Calls Tryz.prog 85 #[.pointer (some ⟨s,0,none⟩),.int .i64 t] w fun e w'=>e= .returned (.agg #[.bool (di T L t).e,.int .u64 (di T L t).d,.int .u8 (di T L t).l])∧Below w.heap.size w w':=by
 unfold di
 cases ht:oN T t with
 |false=>exact Fa h hn t ht
 |true=>
  obtain⟨k,x,rfl,hk,_⟩:=uW ht
  exact Dm h f hn k hk
theorem jj (h:eJ w base s vt vl V T L) (t:Int):Calls Tryz.prog 85 #[.pointer (some ⟨s,0,none⟩),.int .i64 t] w fun e w'=>e= .returned (.agg #[.bool (di T L t).e,.int .u64 (di T L t).d,.int .u8 (di T L t).l])∧Below w.heap.size w w':=by
 obtain⟨gt,ct,a,cap,_,_,hv⟩:=h.vw
 exact F6 hv h.f.vf (Nat.le_refl _) t
end
def pU (g:Nat→K) (l:List Nat):Nat→Int×K
 |0=>(-1,br 0)
 |n+1=>if (pU g l n).1= -1∨up (g (l[n]?.getD 0)) (pU g l n).2=true then((n:Int),g (l[n]?.getD 0)) else pU g l n
section
variable {w:World} {s:Nat} {T:List Th} {L:List Lk} {n0 gt ct cap:Nat} {a:Option Addr} {ln:Nat→Option Addr×Nat}
end
end Go.Proofs.YtdbailcdlngemaaGreatDoor.Pi
namespace Go.Proofs.YtdbailcdlngemaaGreatDoor.Pi
open Go.Proofs.YtdbailcdlngemaaGreatDoor.Ke
open Go.Lib Go.Shelf
open Go.RowKit hiding Hid
def AK (w w':World) (base s:Nat) (vt vl:Value) (V:List Value) (T:List Th) (L:List Lk):Prop:=
 ∃V',eJ w' base s vt vl V' T L∧Fr (own s vt vl V) w w'∧ ∀k,own s vt vl V' k→own s vt vl V k∨w.heap.size≤k
section
variable {w:World} {base s:Nat} {vt vl:Value} {V:List Value} {T:List Th} {L:List Lk}
end
structure Md where
 T:List Th
 L:List Lk
noncomputable def DG (M:Md) (y:Lk):Int:=(pU (keyOf M.T M.L) y.l y.l.length).1
noncomputable def Ix (M:Md) (t m:Int):(Int×Int)×Md:=
 if Gp M.T M.L t m≠0 then((-1,Gp M.T M.L t m),M) else
 match M.L[m.toNat]? with
 |some y=>
  if y.h≠t then((-1,9),M) else
  match y.l[(DG M y).toNat]? with
  |none=>((-1,0),⟨M.T,M.L.set m.toNat ⟨-1,y.l⟩⟩)
  |some q=>(((q:Int),0),⟨(match M.T[q]? with|some z=>M.T.set q ⟨z.k,-1⟩|none=>M.T),M.L.set m.toNat ⟨(q:Int),y.l.eraseIdx (DG M y).toNat⟩⟩)
 |none=>((-1,0),M)
def fD (M:Md) (t:Int) (k:K):Int×Md:=
 if oN M.T t&&aB k then match M.T[t.toNat]? with
  |some x=>(0,⟨M.T.set t.toNat ⟨k,x.u⟩,M.L⟩)
  |none=>(2,M)
 else(2,M)
def PG (w:World) (b:Nat) (O:Nat→Prop) (s:Nat) (M:Md):Prop:= ∃vt vl V,eJ w b s vt vl V M.T M.L∧ ∀k,own s vt vl V k↔O k
def G0 (w w':World) (b:Nat) (O:Nat→Prop) (s:Nat) (M:Md):Prop:= ∃O',PG w' b O' s M∧Fr O w w'∧ ∀k,O' k→O k∨w.heap.size≤k
section
variable {w w':World} {b s:Nat} {O:Nat→Prop} {M:Md}
theorem PG.f (h:PG w b O s M):lX M.T M.L:=by obtain⟨_,_,_,hg,_⟩:=h;exact hg.f
theorem PG.lt (h:PG w b O s M) {k:Nat} (hk:O k):k<w.heap.size:=by obtain⟨_,_,_,hg,ho⟩:=h;exact hg.xT ((ho k).2 hk)
theorem PG.ge (h:PG w b O s M) {k:Nat} (hk:O k):b≤k:=by
 obtain⟨vt,vl,V,hg,ho⟩:=h
 rcases(ho k).2 hk with rfl|q|q|⟨v,hv,q⟩
 ·exact hg.lo
 ·exact(aq hg.tho q).1
 ·exact(aq hg.lko q).1
 ·obtain⟨j,hj⟩:=List.mem_iff_getElem?.1 hv
  have hjl:=(List.getElem?_eq_some_iff.1 hj).1
  rw[hg.vs] at hjl
  exact(aq (hg.lin j _ v (List.getElem?_eq_getElem hjl) hj) q).1
theorem PG.frame {S:Nat→Prop} (h:PG w b O s M) (hf:Fr S w w') (hn: ∀k,O k→ ¬S k):PG w' b O s M:=by
 obtain⟨vt,vl,V,hg,ho⟩:=h
 exact⟨vt,vl,V,hg.frame hf (fun k hk=>hn k ((ho k).1 hk)),ho⟩
theorem PG.below (h:PG w b O s M) (hf:Below w.heap.size w w'):PG w' b O s M:=h.frame (Fr.aE (S:=fun _=>False) hf) (fun _ _=>id)
theorem PG.stay (h:PG w b O s M) (hf:Below w.heap.size w w'):G0 w w' b O s M:=⟨O,h.below hf,Fr.aE hf,fun _ q=> .inl q⟩
theorem AK.Hw {vt vl:Value} {V:List Value} (ho: ∀k,own s vt vl V k↔O k) {T:List Th} {L:List Lk} (h:AK w w' b s vt vl V T L):G0 w w' b O s ⟨T,L⟩:=by
 obtain⟨V',hg,hf,hn⟩:=h
 exact⟨_,⟨vt,vl,V',hg,fun k=>Iff.rfl⟩,hf.wide (fun k _ q=>(ho k).1 q),fun k q=>(hn k q).imp (ho k).1 id⟩
theorem PG.base (h:PG w b O s M) (t:Int) (k:K) (hk:k.ok):Calls Tryz.prog 81 #[.pointer (some ⟨s,0,none⟩),.int .i64 t,.agg #[.bool k.e,.int .u64 k.d,.int .u8 k.l]] w fun e w'=>e= .returned (.int .i64 (fD M t k).1)∧G0 w w' b O s (fD M t k).2:=by
 have hp:=h
 obtain⟨vt,vl,V,hg,ho⟩:=h
 unfold fD
 cases ht:oN M.T t with
 |false=>
  simp only[Bool.false_and,Bool.false_eq_true,if_false]
  refine(vF hg t k (.inl ht)).mono ?_
  rintro e w' ⟨rfl,hb⟩
  exact⟨rfl,hp.stay hb⟩
 |true=>
  cases hr:aB k with
  |false=>
   simp only[Bool.and_false,Bool.false_eq_true,if_false]
   refine(vF hg t k (.inr hr)).mono ?_
   rintro e w' ⟨rfl,hb⟩
   exact⟨rfl,hp.stay hb⟩
  |true=>
   obtain⟨j,x,rfl,hj,hx,_⟩:=uW ht
   simp only[Bool.and_true,if_true,Int.toNat_natCast,hx]
   refine(yR hg j x hx k hk hr).mono ?_
   rintro e w' ⟨rfl,hg',hf⟩
   exact⟨rfl,AK.Hw ho ⟨V,hg',hf.wide (fun k _ q=> .inr (.inl q)),fun k q=> .inl q⟩⟩
theorem PG.key (h:PG w b O s M) (t:Int):Calls Tryz.prog 85 #[.pointer (some ⟨s,0,none⟩),.int .i64 t] w fun e w'=>e= .returned (.agg #[.bool (di M.T M.L t).e,.int .u64 (di M.T M.L t).d,.int .u8 (di M.T M.L t).l])∧Below w.heap.size w w':=by
 obtain⟨vt,vl,V,hg,ho⟩:=h
 exact jj hg t
end
section
variable {w:World} {base s:Nat} {vt vl:Value} {V:List Value} {T:List Th} {L:List Lk}
end
def Cm (n m:Nat):Md:=⟨tU n,rm m⟩
theorem pI (n m:Nat) (w:World) (h1:1≤n) (h2:n≤1024) (h3:m≤32):
  Calls Tryz.prog 28 #[.int .i64 n,.int .i64 m] w fun e w'=> ∃s O,e= .returned (.pointer (some ⟨s,0,none⟩))∧PG w' w.heap.size O s (Cm n m)∧Below w.heap.size w w':=by
 refine(C7 n m w h1 h2 h3).mono ?_
 rintro e w' ⟨s,gt,gl,rfl,hn⟩
 exact⟨s,_,rfl,⟨_,_,_,eJ.new hn h1 h2 h3,fun k=>Iff.rfl⟩,hn.be⟩
end Go.Proofs.YtdbailcdlngemaaGreatDoor.Pi

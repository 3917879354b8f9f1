/- YtnmhcgpnhlhcgaaGreatDoorGq: of the texts Ba13 Ba14 Ba15 Ba16 Ba17 Ba18 Ba19 Ba20 Ba21 Ba22 Ba23 Ba24 Ba25 Ba26 Ba27 Ba28 Ba29 Ba30 Ba31 Ba32 Ba33 Ba34 Ba35 what is wanted. -/
import Derived.Test.YtnmhcgpnhlhcgaaGreatDoorG0
import Derived.Test.YtnmhcgpnhlhcgaaGreatDoorGp
import Derived.OrdersHeld
import Derived.Test.YtnmhcgpnhlhcgaaGreatDoorGa
import Derived.Defers
import Derived.Recover
import Derived.Laws.Pointers
import Derived.Laws.CopyOwn
import Derived.Laws.Tables
import Derived.Deep.AppendLies
import Derived.Test.YtnmhcgpnhlhcgaaGreatDoorGk
set_option maxHeartbeats 16000000
set_option maxRecDepth 100000
set_option linter.unusedVariables false
set_option linter.unusedSimpArgs false
namespace Go.Proofs.YtnmhcgpnhlhcgaaGreatDoor
open Go.RowKit
theorem step_append_ev {P:Program} (w:World) {ops:Array Oper} {o:Oper} {a:Act} {K:Act→World→Prop} {Q:Exit→Act→World→Prop} {E:Prop} (hgd:o.guard=none) (s x:Operand) (t:TypeId)
  (ho:o.op= .call {callee:= .builtin .append,args:= #[s,x],argTypes:= #[t,t]})
  (base:Nat) (e:TypeId) (i:TypeInfo) (z:Value) (size bytes:Nat) (ht:P.underlying t=some (.slice e)) (hi:P.info? e=some i) (hz:i.zero=some z)
  (hsize:i.size=size) (hby:i.bytes=bytes) (hzs:z.cells.size=size) (hsz:0<size)
  (v:Value) (n:Nat) (xs:List Value) (hs:a.eval s=v) (hown:w.ownsRow base e size v n xs)
  (ad:Addr) (m c:Nat) (news:List Value) (hx:a.eval x= .slice (some ad) m c) (hl:news.length=m*size) (hnews: ∀j u,news[j]? =some u→w.cell? (ad.add j)=some u) (h1: ∀u∈news,u.oneCell'=true)
  (h63:n+m≤maxLen) (hbytes:(n+m)*bytes≤140737488355328) (hbase:base≤w.heap.size)
  (h: ∀v' w',w'.ownsRow base e size v' (n+m) (xs++news)→w.grownBy w' v.ownBlock→(v'.ownBlock=v.ownBlock∨v'.ownBlock=some w.heap.size)→K (a.put o.dst v') w'):
  if Region.wanted o (yielded ops a.tmps)=true then Oper.wp P o a w K Q else E:=by
 have hw:Region.wanted o (yielded ops a.tmps)=true:=by simp[Region.wanted,hgd]
 rw[if_pos hw]
 obtain⟨v',w',hr,h2,h3,h4,h5⟩:=run_append_own_at (P:=P) w base t o.type e i z size bytes ht hi hz hsize hby hzs hsz v n xs hown ad m c news hl hnews h1 h63 hbytes hbase
 unfold Oper.wp execOp
 simp only[ho,resolve,invoke,builtin,Sem.run_bind,Sem.run_pure,Result.andThen_ok,List.map_toArray,List.map_cons,List.map_nil,hs,hx,hr]
 exact h v' w' h2 h3 h5
structure Sp (w W:World) (lab labk:Nat→Nat) (a:Ad) (P n q T:Nat) (M:Mc) (sb pr:Nat) (l:List Ev) (v:Value):Prop where
 at_:At w W lab labk a P n q T M
 c0:W.cell? (vA0 sb)=some (vPt a.m)
 c1:W.cell? (vAt sb 1)=some (vI6 (pr:Int))
 c2:W.cell? (vAt sb 2)=some (.pointer (some (vAt a.pr (pr*3))))
 c3:W.cell? (vAt sb 3)=some v
 hv:EvL W w.heap.size v l
 hk: ∀k,v.ownBlock=some k→labk k=0∧k≠sb
 fz: ∀o,W.frozen? (vAt sb o)=false
 ls:labk sb=0
 ws:w.heap.size≤sb
section
variable {w W W':World} {lab labk:Nat→Nat} {a:Ad} {P n q T T':Nat} {M M':Mc} {sb pr:Nat} {l:List Ev}
theorem EvL.lt {base:Nat} {v:Value} (h:EvL W base v l) {k:Nat} (hk:v.ownBlock=some k):k<W.heap.size∧base≤k:=by
 obtain⟨h1,⟨hv,_⟩|⟨g,cap,cells,hv,h3,h4,h5⟩⟩:=h
 ·rw[hv] at hk;cases hk
 ·rw[hv] at hk
  injection hk with hk
  grind
variable {v:Value} {O O0:Nat→Prop} {W0:World}
theorem Sp.lt (h:Sp w W lab labk a P n q T M sb pr l v):sb<W.heap.size:=World.block_lt_of_cell? W _ h.c0
theorem Sp.keep (h:Sp w W lab labk a P n q T M sb pr l v) {lab':Nat→Nat} (A:At w W' lab lab' a P n q T' M') (ho: ∀b,b<W.heap.size→lab' b=labk b) (hb: ∀b,b<W.heap.size→labk b=0→W'.heap[b]? =W.heap[b]?):Sp w W' lab lab' a P n q T' M' sb pr l v:=by
 have e:=hb sb h.lt h.ls
 have ec: ∀o,W'.cell? (vAt sb o)=W.cell? (vAt sb o):=fun _=>World.cell?_of_block e
 exact⟨A,(ec _).trans h.c0,(ec _).trans h.c1,(ec _).trans h.c2,(ec _).trans h.c3,row_keptF h.hv (fun k q=>hb k (h.hv.lt q).1 (h.hk k q).1),fun k q=>⟨(ho k (h.hv.lt q).1).trans (h.hk k q).1,(h.hk k q).2⟩,fun o=>(World.frozen?_of_block e).trans (h.fz o),(ho sb h.lt).trans h.ls,h.ws⟩
theorem Sp.below (h:Sp w W lab labk a P n q T M sb pr l v) (hb:vBw W W'):Sp w W' lab labk a P n q T M sb pr l v:=
 h.keep (h.at_.below hb) (by simp) (fun b hlt _=>hb.block b hlt)
def SG (w W:World) (lab:Nat→Nat) (a:Ad) (P n q T:Nat) (M:Mc) (sb pr:Nat) (l:List Ev) (O:Nat→Prop):Prop:= ∃labk v,Sp w W lab labk a P n q T M sb pr l v∧ ∀k,O k↔(labk k≠0∨k=sb∨v.ownBlock=some k)
def SX (w W0 W:World) (lab:Nat→Nat) (a:Ad) (P n q T:Nat) (M:Mc) (sb pr:Nat) (l:List Ev) (O0:Nat→Prop):Prop:= ∃O,SG w W lab a P n q T M sb pr l O∧Fr O0 W0 W∧ ∀k,k<W0.heap.size→O k→O0 k
theorem SG.sx (h:SG w W lab a P n q T M sb pr l O):SX w W W lab a P n q T M sb pr l O:=⟨O,h,Fr.refl _ _,fun _ _ q=>q⟩
theorem SG.below (h:SG w W lab a P n q T M sb pr l O) (hb:vBw W W'):SG w W' lab a P n q T M sb pr l O:=by
 obtain⟨k,v,s,ho⟩:=h
 exact⟨k,v,s.below hb,ho⟩
theorem SG.lt (h:SG w W lab a P n q T M sb pr l O) {k:Nat} (hk:O k):k<W.heap.size:=by
 obtain⟨k',v,s,ho⟩:=h
 rcases(ho k).1 hk with q|q|q
 ·exact s.at_.i.lt k q
 ·rw[q];exact s.lt
 ·exact(s.hv.lt q).1
theorem SX.call (h:SX w W0 W lab a P n q T M sb pr l O0) {f:Nat} {args:Array Value} {R:Ending→Prop} {l':List Ev} (hc: ∀O,SG w W lab a P n q T M sb pr l O→vCa f args W fun e w'=>R e∧SX w W w' lab a P n q T' M' sb pr l' O):vCa f args W fun e w'=>R e∧SX w W0 w' lab a P n q T' M' sb pr l' O0:=by
 obtain⟨O,hs,hf,ho⟩:=h
 refine(hc O hs).mono ?_
 rintro e w' ⟨hr,O2,hs2,hf2,ho2⟩
 exact⟨hr,O2,hs2,hf.then hf2 (by omega),fun k hk q=>ho k hk (ho2 k (Nat.lt_of_lt_of_le hk hf.size) q)⟩
theorem SG.goes (h:SG w W lab a P n q T M sb pr l O) (g: ∀labk,IsMc W labk a P n q T M→Goes W W' labk a P n q T' M'):SX w W W' lab a P n q T' M' sb pr l O:=by
 obtain⟨k,v,s,ho⟩:=h
 obtain⟨lab',A,hl,hf⟩:=s.at_.step (g k s.at_.i)
 refine⟨_,⟨lab',v,s.keep A hl (fun b hb hl=>hf.box hl hb),fun _=>Iff.rfl⟩,hf.to (by grind),fun k hk q=>(ho k).2 ?_⟩
 grind
theorem SG.lift (h:SG w W lab a P n q T M sb pr l O) {f:Nat} {args:Array Value} {R:Ending→Prop} (hc: ∀labk,IsMc W labk a P n q T M→vCa f args W fun e w'=>R e∧Goes W w' labk a P n q T' M'):vCa f args W fun e w'=>R e∧SX w W w' lab a P n q T' M' sb pr l O:=by
 obtain⟨k,v,s,ho⟩:=id h
 refine(hc k s.at_.i).mono ?_
 rintro e w' ⟨hr,g⟩
 refine⟨hr,?_⟩
 obtain⟨lab',A,hl,hf⟩:=s.at_.step g
 refine⟨_,⟨lab',v,s.keep A hl (fun b hb hl=>hf.box hl hb),fun _=>Iff.rfl⟩,hf.to (by grind),fun k hk q=>(ho k).2 ?_⟩
 grind
theorem SX.lift (h:SX w W0 W lab a P n q T M sb pr l O0) {f:Nat} {args:Array Value} {R:Ending→Prop} (hc: ∀labk,IsMc W labk a P n q T M→vCa f args W fun e w'=>R e∧Goes W w' labk a P n q T' M'):vCa f args W fun e w'=>R e∧SX w W0 w' lab a P n q T' M' sb pr l O0:=h.call fun _ s=>s.lift hc
theorem SX.goes (h:SX w W0 W lab a P n q T M sb pr l O0) (g: ∀labk,IsMc W labk a P n q T M→Goes W W' labk a P n q T' M'):SX w W0 W' lab a P n q T' M' sb pr l O0:=by
 obtain⟨O,hs,hf,ho⟩:=h
 obtain⟨O2,hs2,hf2,ho2⟩:=hs.goes g
 exact⟨O2,hs2,hf.then hf2 (by omega),fun k hk q=>ho k hk (ho2 k (Nat.lt_of_lt_of_le hk hf.size) q)⟩
theorem SX.more (h:SX w W0 W lab a P n q T M sb pr l O0) (hb:vBw W W'):SX w W0 W' lab a P n q T M sb pr l O0:=by
 obtain⟨O,hs,hf,ho⟩:=h
 exact⟨O,hs.below hb,hf.then (ofBelow (S:=fun _=>False) hb) (by simp),ho⟩
theorem SX.ahead {W1:World} (h:SX w W1 W lab a P n q T M sb pr l O0) (hb:vBw W0 W1):SX w W0 W lab a P n q T M sb pr l O0:=by
 obtain⟨O,hs,hf,ho⟩:=h
 exact⟨O,hs,(ofBelow hb).then hf (by simp),fun k hk q=>ho k (Nat.lt_of_lt_of_le hk hb.size) q⟩
theorem SX.liftB (h:SX w W0 W lab a P n q T M sb pr l O0) {f:Nat} {args:Array Value} {R:Ending→Prop} (hc: ∀labk,IsMc W labk a P n q T M→vCa f args W fun e w'=>R e∧vBw W w'):vCa f args W fun e w'=>R e∧SX w W0 w' lab a P n q T M sb pr l O0:=by
 obtain⟨O,⟨k,v,s,_⟩,_,_⟩:=id h
 exact(hc k s.at_.i).mono (fun _ _ ⟨e,g⟩=>⟨e,h.more g⟩)
theorem SX.like (h:SX w W0 W lab a P n q T M sb pr l O0) (e1:W'.heap=W.heap) (e2:W'.os=W.os) (e3:W'.tape=W.tape) (e4:W'.output=W.output):SX w W0 W' lab a P n q T M sb pr l O0:=
 h.more mK
theorem SX.keep (h:SX w W0 W lab a P n q T M sb pr l O0) {b o:Nat} {u:Value} (hb: ¬O0 b) (c:W0.cell? (vAt b o)=some u):W.cell? (vAt b o)=some u:=by
 obtain⟨O,hs,hf,ho⟩:=h
 exact(hf.cellAt (World.block_lt_of_cell? W0 _ c) hb).trans c
theorem SX.sp (h:SX w W0 W lab a P n q T M sb pr l O0): ∃labk v,Sp w W lab labk a P n q T M sb pr l v:=by
 obtain⟨O,⟨k,v,s,_⟩,_,_⟩:=h
 grind
theorem SX.moreT (h:SX w W0 W lab a P n q T M sb pr l O0) (hT:T≤T'):SX w W0 W lab a P n q T' M sb pr l O0:=h.goes fun _ i=>(i.moreT hT).goes
theorem SX.c0 (h:SX w W0 W lab a P n q T M sb pr l O0):W.cell? (vA0 sb)=some (vPt a.m):=by grind[SX.sp,Sp.c0]
theorem SX.c1 (h:SX w W0 W lab a P n q T M sb pr l O0):W.cell? (vAt sb 1)=some (vI6 (pr:Int)):=by grind[SX.sp,Sp.c1]
theorem SX.c2 (h:SX w W0 W lab a P n q T M sb pr l O0):W.cell? (vAt sb 2)=some (.pointer (some (vAt a.pr (pr*3)))):=by grind[SX.sp,Sp.c2]
theorem SX.i (h:SX w W0 W lab a P n q T M sb pr l O0): ∃labk,IsMc W labk a P n q T M:=by obtain⟨k,v,s⟩:=h.sp;exact⟨k,s.at_.i⟩
theorem SX.core (h:SX w W0 W lab a P n q T M sb pr l O0):Core W a P n M.qu M.ag:=by grind[SX.i,IsMc.co]
theorem SX.pc (h:SX w W0 W lab a P n q T M sb pr l O0) (hp:pr<P):PcAt W a.pr (pr*3) (M.pc pr):=by obtain⟨k,i⟩:=h.i;exact i.pc.at_ pr hp
theorem SX.pfz (h:SX w W0 W lab a P n q T M sb pr l O0) (o:Nat):W.frozen? (vAt a.pr o)=false:=by obtain⟨k,i⟩:=h.i;exact i.pc.fz o
theorem SX.tr (h:SX w W0 W lab a P n q T M sb pr l O0) {x:Nat} (hx:x<n):TrAt W a.th (x*10) (M.th x):=by obtain⟨k,i⟩:=h.i;exact i.th.at_ x hx
theorem SX.tok (h:SX w W0 W lab a P n q T M sb pr l O0) {x:Nat} (hx:x<n):(M.th x).ok:=by obtain⟨k,i⟩:=h.i;exact i.th.ok x hx
theorem SX.tfz (h:SX w W0 W lab a P n q T M sb pr l O0) (o:Nat):W.frozen? (vAt a.th o)=false:=by obtain⟨k,i⟩:=h.i;exact i.th.fz o
theorem infoEv:(Tryz.prog.info? 80).map (fun i=>(i.zero,i.size,i.bytes))=some (some (.agg #[vI6 0,vI6 0,vI6 0,vU3 0,vI6 0,vI6 0]),6,48):=by rfl
theorem evOne_one (v:Ev): ∀u∈evOne v,u.oneCell'=true:=by
 intro u hu
 simp[evOne] at hu
 rcases hu with rfl|rfl|rfl|rfl|rfl|rfl<;>rfl
theorem evCells_snoc (l:List Ev) (v:Ev):evCells (l++[v])=evCells l++evOne v:=by simp[evCells]
theorem Sp.told (h:Sp w W lab labk a P n q T M sb pr l v) {v1:Value} {w1:World} {ev:Ev} (ho:w1.ownsRow w.heap.size 80 6 v1 (l.length+1) (evCells l++evOne ev)) (hg:W.grownBy w1 v.ownBlock) (hat:v1.ownBlock=v.ownBlock∨v1.ownBlock=some W.heap.size):(∀O,(∀k,O k↔(labk k≠0∨k=sb∨v.ownBlock=some k))→SX w W (w1.setCell (vAt sb 3) v1) lab a P n q T M sb pr (l++[ev]) O)∧w1.cell? (vAt sb 3)=some v∧w1.frozen? (vAt sb 3)=false:=by
 have c3:=h.c3
 have hv:=h.hv
 have hk:=h.hk
 have hbl:=fun b (hb:b<W.heap.size) (hn:v.ownBlock≠some b)=>hg.block b hb (by grind)
 have hsb:=hbl sb h.lt (by grind)
 have hset: ∀b,b≠sb→(w1.setCell (vAt sb 3) v1).heap[b]? =w1.heap[b]? :=fun b hb=>Below.heap_setCell _ _ _ _ hb
 have hf1:Fr (fun k=>labk k=0∧w.heap.size≤k) W (w1.setCell (vAt sb 3) v1):=by
  refine⟨hg.os,hg.tape,hg.output,by simpa using hg.size,fun k hkl hn=> ?_⟩
  have h1:k≠sb:=fun e=>hn (by exact mK)
  rw[hset k h1]
  exact hbl k hkl (fun e=>hn ⟨(hk k e).1,(hv.lt e).2⟩)
 have hz:=h.at_.z
 have hi:=h.at_.i.frame hf1 (by omega) (by omega)
 have A:At w (w1.setCell (vAt sb 3) v1) lab labk a P n q T M:=⟨hi,⟨h.at_.l.old,hi.lt⟩,h.at_.f.then hf1 (by omega),hz⟩
 have ec: ∀o,o≠3→(w1.setCell (vAt sb 3) v1).cell? (vAt sb o)=W.cell? (vAt sb o):=fun o ho=>(cfar w1 (by omega)).trans (World.cell?_of_block hsb)
 have c31:=(World.cell?_of_block hsb).trans c3
 have f31:=fun o=>(World.frozen?_of_block hsb).trans (h.fz o)
 have hne: ∀k,v1.ownBlock=some k→labk k=0∧k≠sb:=fun k e=>by
  rcases hat with q|q
  ·grind
  ·rw[q] at e
   injection e with e
   rw[←e]
   exact⟨h.at_.fresh lzr,by have:=h.lt;omega⟩
 have hev:EvL (w1.setCell (vAt sb 3) v1) w.heap.size v1 (l++[ev]):=by
  unfold EvL
  rw[evCells_snoc,List.length_append]
  exact row_keptF ho (by grind)
 have hF:Fr (fun k=>k=sb∨v.ownBlock=some k) W (w1.setCell (vAt sb 3) v1):=by
  refine⟨hg.os,hg.tape,hg.output,by simpa using hg.size,fun k hkl hn=> ?_⟩
  grind
 refine⟨fun O hO=>⟨_,⟨labk,v1,⟨A,(ec 0 (by decide)).trans h.c0,(ec 1 (by decide)).trans h.c1,(ec 2 (by decide)).trans h.c2,Gt.set_same _ _ _ _ c31,hev,hne,fun o=>by simp_all,h.ls,h.ws⟩,fun _=>Iff.rfl⟩,hF.to (by grind),fun k hk q=>(hO k).2 ?_⟩,c31,f31 3⟩
 grind
end
section
variable {w W W':World} {lab labk:Nat→Nat} {a:Ad} {P n q T T':Nat} {M M':Mc} {sb pr:Nat} {l:List Ev} {v:Value} {O O0:Nat→Prop} {W0:World}
theorem SG.tell (h : SG w W lab a P n q T M sb pr l O) (hl : l.length ≤ 10000) (kd : Int) (x : Int) (g : Nat) (ar : Int) :
  vCa 120 #[vPt sb, vI6 kd, .agg #[vI6 x, vU3 (g : Int)], vI6 ar] W fun e w' => e = vRt #[] ∧ SX w W w' lab a P n q T M sb pr (l ++ [⟨kd, (pr : Int), x, g, ar, 0⟩]) O := by
 obtain ⟨labk, v, hs, hO⟩ := h
 have hb0 : vBw W (W.alloc (.cells #[vI6 x, vU3 (g : Int)] 76)) := bzA
 have s0 := hs.below hb0
 have k0 := newc W #[vI6 x, vU3 (g : Int)] 76 0 _ rfl
 have k1 := newc W #[vI6 x, vU3 (g : Int)] 76 1 _ rfl
 have hsib : ¬ sb = W.heap.size := by have := hs.lt; omega
 have hsib' : ¬ W.heap.size = sb := fun e => hsib e.symm
 have hlb := hs.at_.fresh lzr
 have c3 := hs.c3
 have hv := hs.hv
 have hk := hs.hk
 have HB0 := veil hb0
 have hki : ∀ k, v.ownBlock = some k → k ≠ W.heap.size := fun k e => by have := (hv.lt e).1; omega
 replace c3 := kc hb0 c3
 replace hv := hv.below hb0
 clear hs hb0
 generalize hW : W.alloc (.cells #[vI6 x, vU3 (g : Int)] 76) = W0 at *
 have HW := veil hW
 clear hW
 have p1 := s0.c1
 obtain ⟨ad, cap, rfl⟩ := Cb.owns_slice hv
 obtain ⟨ev, hev⟩ : ∃ ev : Ev, (⟨kd, (pr : Int), x, g, ar, 0⟩ : Ev) = ev := ⟨_, rfl⟩
 have hb1 : vBw W0 (W0.alloc (.cells #[vI6 kd, vI6 (pr : Int), vI6 x, vU3 (g : Int), vI6 ar, vI6 0] 80)).drew := ((Below.refl _ W0).alloc lzr _).drew
 have s1 := s0.below hb1
 have q31 := kc hb1 c3
 have q1 := kc hb1 p1
 have m0 := kc hb1 k0
 have m1 := kc hb1 k1
 have HOW : Hid ((W0.alloc (.cells #[vI6 kd, vI6 (pr : Int), vI6 x, vU3 (g : Int), vI6 ar, vI6 0] 80)).drew.ownsRow w.heap.size 80 6 (.slice ad l.length cap) l.length (evCells l)) := s1.hv
 have HNW : Hid (∀ j u, (evOne ev)[j]? = some u → (W0.alloc (.cells #[vI6 kd, vI6 (pr : Int), vI6 x, vU3 (g : Int), vI6 ar, vI6 0] 80)).drew.cell? (((vA0 W0.heap.size) : Addr).add j) = some u) := by
  rw [← hev]
  exact Cb.news_of (w1 := W0) (c := evOne ⟨kd, (pr : Int), x, g, ar, 0⟩) rfl
 have HBS := veil s1.at_.f.size
 generalize hW1 : (W0.alloc (.cells #[vI6 kd, vI6 (pr : Int), vI6 x, vU3 (g : Int), vI6 ar, vI6 0] 80)).drew = W1 at *
 have HEND : Hid (∀ v1 w2, w2.ownsRow w.heap.size 80 6 v1 (l.length + 1) (evCells l ++ evOne ev) → W1.grownBy w2 (Value.slice ad l.length cap).ownBlock → (v1.ownBlock = (Value.slice ad l.length cap).ownBlock ∨ v1.ownBlock = some W1.heap.size) → (SX w W (w2.setCell (vAt sb 3) v1) lab a P n q T M sb pr (l ++ [ev]) O ∧ w2.cell? (vAt sb 3) = some (.slice ad l.length cap) ∧ w2.frozen? (vAt sb 3) = false) ∧ (w2.cell? (vAt sb 1) = some (vI6 (pr : Int)) ∧ w2.cell? (vA0 W.heap.size) = some (vI6 x) ∧ w2.cell? (vAt W.heap.size 1) = some (vU3 (g : Int)))) := fun v1 w2 ho hg hat => by
  refine ⟨⟨((s1.told ho hg hat).1 O hO).ahead (bt HB0.out hb1), (s1.told ho hg hat).2⟩, ?_⟩
  have hbl := fun b (hb : b < W1.heap.size) (hn : (Value.slice ad l.length cap).ownBlock ≠ some b) => hg.block b hb (fun e => hn e.symm)
  have e1 := hbl sb s1.lt (fun e => (hk sb e).2 rfl)
  have e2 := hbl W.heap.size (World.block_lt_of_cell? W1 _ m0) (fun e => hki W.heap.size e rfl)
  exact ⟨(World.cell?_of_block e1).trans q1, (World.cell?_of_block e2).trans m0, (World.cell?_of_block e2).trans m1⟩
 have HW1 := veil hW1
 have HEV := veil hev
 clear hW1 hev
 obtain ⟨i0, hi0, hz0, hz1, hz2⟩ := Cb.info_parts infoEv
 clear hv hk hki s0 s1 hb1 hO HB0
 refine ge ?_
 go_wp2
 rw [HW.out]
 refine wp_region_held_drew (S := (fun w' => w'.cell? (vAt sb 1) = some (vI6 (pr : Int)) ∧ w'.cell? (vA0 W.heap.size) = some (vI6 x) ∧ w'.cell? (vAt W.heap.size 1) = some (vU3 (g : Int)))) (by rfl) ?_ (fun hHeld => ?_)
 ·simp_all
 refine st ?_
 repeat' first
  | refine dn ?_
  | refine tk ?_
  | refine rd ?_
  | exact opZ
  | refine opN ?_
  | refine opS ?_ ?_
  | (refine opY 13 (fun K hK => ?_)
     go_simp
     rw [HW1.out]
     refine hK.out _ _ ?_ (fun hHeld => ?_)
     ·grind
     clear hK K
     try simp only [puX])
  | (refine opY 14 (fun K hK => ?_)
     refine step_append_ev _ (by rfl) _ _ _ (by rfl) w.heap.size 80 i0 (.agg #[vI6 0, vI6 0, vI6 0, vU3 0, vI6 0, vI6 0]) 6 48 Tryz.underlying38 hi0 hz0 hz1 hz2 rfl (by omega) (.slice ad l.length cap) l.length (evCells l) (by rfl) HOW.out (vA0 W0.heap.size) 1 1 (evOne ev) (by rfl) rfl HNW.out (evOne_one _) (by unfold maxLen; omega) (by omega) HBS.out ?_
     intro v1 w2 ho1 hg1 hat1
     obtain ⟨⟨hsg, y1, y2⟩, hS2⟩ := HEND.out _ _ ho1 hg1 hat1
     obtain ⟨a1, d1, rfl⟩ := Cb.owns_slice ho1
     have HX := veil hsg
     clear hsg ho1 hg1 hat1
     refine hK.out _ _ ?_ (fun hHeld => ?_)
     ·exact hS2
     clear hK K
     try simp only [puX])
  | (refine opY _ (fun K hK => ?_)
     go_simp
     refine hK.out _ _ ?_ (fun hHeld => ?_)
     ·omega
     clear hK K
     try simp only [puX])
  | (refine opY _ (fun K hK => ?_)
     go_simp
     refine hK.out _ _ ?_ (fun hHeld => ?_)
     ·exact ⟨(cfar w2 (by decide)).trans hS2.1, (Gt.set_other _ _ _ _ _ _ (fun q => hsib q.1)).trans hS2.2.1, (Gt.set_other _ _ _ _ _ _ (fun q => hsib q.1)).trans hS2.2.2⟩
     clear hK K
     try simp only [puX])
 all_goals
  refine ⟨?_⟩
  go_wp2
  go_end0
  rw [HEV.out]
  exact ⟨rfl, HX.out⟩
end
def pOver:List PanicEntry:=[{v:= .iface 186 (.agg #[]),recovered:=false}]
section
variable {w W W':World} {lab labk:Nat→Nat} {a:Ad} {P n q T T':Nat} {M M':Mc} {sb pr:Nat} {l:List Ev} {O O0:Nat→Prop} {W0:World}
theorem SG.end_ (h:SG w W lab a P n q T M sb pr l O) (hl:l.length≤10000) (kd:Int) (x:Int) (g:Nat) (ar:Int):
  vCa 123 #[vPt sb,vI6 kd,.agg #[vI6 x,vU3 (g:Int)],vI6 ar] W fun e w'=>e= .panicked pOver∧SX w W w' lab a P n q T M sb pr (l++[⟨kd,(pr:Int),x,g,ar,0⟩]) O:=by
 have hb0:vBw W (W.alloc (.cells #[vI6 x,vU3 (g:Int)] 76)):=bzA
 have HT:=veil ((h.sx.more hb0).call (R:=fun e=>e=vRt #[]) fun _ s=>s.tell hl kd x g ar)
 clear h hb0
 unfold pOver
 refine ge ?_
 go_wp2_with (first
  |(go_at_call 120;refine cH HT.out fun w1 HG=> ?_))
 simp[bodyPost]
 exact HG.out
theorem PcAt.far {b o:Nat} {x:Pc} (h:PcAt W b o x) {o':Nat} (ho:o'<o∨o+3≤o') (u:Value):PcAt (W.setCell (vAt b o') u) b o x:=
 ⟨(cfar W (by omega)).trans h.c0,(cfar W (by omega)).trans h.c1,(cfar W (by omega)).trans h.c2⟩
theorem PcAt.set_r {b o:Nat} {x:Pc} (h:PcAt W b o x) (r:Int):PcAt (W.setCell (vAt b o) (vI6 r)) b o {x with r:=r}:=
 ⟨Gt.set_same _ _ _ _ h.c0,(cfar W (by omega)).trans h.c1,(cfar W (by omega)).trans h.c2⟩
theorem PcAt.set_s {b o:Nat} {x:Pc} (h:PcAt W b o x) (r:Nat):PcAt (W.setCell (vAt b (o+1)) (vU6 (r:Int))) b o {x with s:=r}:=
 ⟨(cfar W (by omega)).trans h.c0,Gt.set_same _ _ _ _ h.c1,(cfar W (by omega)).trans h.c2⟩
theorem PcAt.set_m {b o:Nat} {x:Pc} (h:PcAt W b o x) (r:Bool):PcAt (W.setCell (vAt b (o+2)) (.bool r)) b o {x with m:=r}:=
 ⟨(cfar W (by omega)).trans h.c0,(cfar W (by omega)).trans h.c1,Gt.set_same _ _ _ _ h.c2⟩
theorem Pcs.put {b:Nat} {f:Nat→Pc} (h:Pcs W b P f) {x:Nat} {t:Pc} (ht:PcAt W' b (x*3) t) (hok:t.s<18446744073709551616) (hfar: ∀j,j<P→j≠x→PcAt W' b (j*3) (f j)) (hfz: ∀o,W'.frozen? (vAt b o)=false):Pcs W' b P (upd f x t):=by
 exact mK
theorem far3 {x j i:Nat} (h:j≠x) (hi:i<3):x*3+i<j*3∨j*3+3≤x*3+i:=by omega
def setR (M:Mc) (pr:Nat) (r:Int):Mc:={M with pc:=upd M.pc pr {M.pc pr with r:=r}}
theorem IsMc.setRun (h:IsMc W labk a P n q T M) (hp:pr<P) (r:Int):Goes W (W.setCell (vAt a.pr (pr*3)) (vI6 r)) labk a P n q T (setR M pr r):=by
 have h3:Fr (fun k=>labk k=3) W (W.setCell (vAt a.pr (pr*3)) (vI6 r)):=(Fr.refl _ _).setCell (a:=(vAt a.pr _)) h.lpr _
 refine⟨labk,h.toPc (h.same h3) h3 (h.pc.put ((h.pc.at_ pr hp).set_r r) (h.pc.ok pr hp) (fun j hj hne=>(h.pc.at_ j hj).far (by omega) _) (fun o=>by rw[frozen_set];exact h.pc.fz o)),h.same h3,h3.to (by omega)⟩
theorem SX.setRun (h:SX w W0 W lab a P n q T M sb pr l O0) (hp:pr<P) (r:Int):SX w W0 (W.setCell (vAt a.pr (pr*3)) (vI6 r)) lab a P n q T (setR M pr r) sb pr l O0:=h.goes fun _ i=>i.setRun hp r
noncomputable def backM (P n q:Nat) (M:Mc) (pr x:Nat):Mc:=setR (ready P n q M x (pr:Int)) pr (-1)
theorem SX.putBack (h:SX w W0 W lab a P n q T M sb pr l O0) (hT:T+n≤1000000000) (hp:pr<P) (x:Nat) (hx:x<n) (hr:(M.pc pr).r=(x:Int)):
  vCa 121 #[vPt sb] W fun e w'=>e=vRt #[]∧SX w W0 w' lab a P n q (T+n+1) (backM P n q M pr x) sb pr l O0:=by
 have HR:=veil fun W (h:SX w W0 W lab a P n q T M sb pr l O0)=>h.lift (R:=fun e=>e=vRt #[]) fun _ i=>i.goes.ready hT x hx (pr:Int)
 have HN:Hid (∀W,SX w W0 W lab a P n q (T+n+1) (Go.Proofs.YtnmhcgpnhlhcgaaGreatDoor.ready P n q M x (pr:Int)) sb pr l O0→W.cell? (vAt a.pr (pr*3))=some (vI6 ((Go.Proofs.YtnmhcgpnhlhcgaaGreatDoor.ready P n q M x (pr:Int)).pc pr).r)∧W.frozen? (vAt a.pr (pr*3))=false∧SX w W0 (W.setCell (vAt a.pr (pr*3)) (vI6 (-1))) lab a P n q (T+n+1) (backM P n q M pr x) sb pr l O0):=fun W h=>⟨(h.pc hp).c0,h.pfz _,h.setRun hp (-1)⟩
 have hrp:((Go.Proofs.YtnmhcgpnhlhcgaaGreatDoor.ready P n q M x (pr:Int)).pc pr).r=(x:Int):=by rw[←hr];unfold Go.Proofs.YtnmhcgpnhlhcgaaGreatDoor.ready ready3 ready2 ready1 Go.Proofs.YtnmhcgpnhlhcgaaGreatDoor.settle;grind
 rw[hrp] at HN
 have H0:=veil h
 have c0:=h.c0
 have c1:=h.c1
 have c2:=h.c2
 have r0:=(h.pc hp).c0
 rw[hr] at r0
 have HC:Hid (∀W,SX w W0 W lab a P n q (T+n+1) (Go.Proofs.YtnmhcgpnhlhcgaaGreatDoor.ready P n q M x (pr:Int)) sb pr l O0→W.cell? (vA0 sb)=some (vPt a.m)∧W.cell? (vAt sb 1)=some (vI6 (pr:Int))∧W.cell? (vAt sb 2)=some (.pointer (some (vAt a.pr (pr*3))))∧W.cell? (vAt a.pr (pr*3))=some (vI6 (x:Int))):=fun W h=>⟨h.c0,h.c1,h.c2,by rw[←hrp];exact(h.pc hp).c0⟩
 clear h hr hrp
 refine ge ?_
 go_wp2
 go_region_held3 (fun w'=>w'.cell? (vA0 sb)=some (vPt a.m)∧w'.cell? (vAt sb 1)=some (vI6 (pr:Int))∧w'.cell? (vAt sb 2)=some (.pointer (some (vAt a.pr (pr*3))))∧w'.cell? (vAt a.pr (pr*3))=some (vI6 (x:Int)))
  (first|exact HC.out _ HG.out|go_keep)
  (first
   |(go_at_call 50;refine cH (HR.out _ (by exact SX.like H0.out rfl rfl rfl rfl)) fun w1 HG=> ?_))
 obtain⟨d0,d1,d2,d3⟩:=HC.out _ HG.out
 obtain⟨z0,z1,hz⟩:=HN.out _ HG.out
 have HZ:=veil hz
 clear hz c0 c1 c2 r0
 go_wp2
 go_end0
 exact⟨rfl,HZ.out⟩
theorem SX.tell (h:SX w W0 W lab a P n q T M sb pr l O0) (hl:l.length≤10000) (kd:Int) (x:Int) (g:Nat) (ar:Int):
  vCa 120 #[vPt sb,vI6 kd,.agg #[vI6 x,vU3 (g:Int)],vI6 ar] W fun e w'=>e=vRt #[]∧SX w W0 w' lab a P n q T M sb pr (l++[⟨kd,(pr:Int),x,g,ar,0⟩]) O0:=h.call (R:=fun e=>e=vRt #[]) fun _ s=>s.tell hl kd x g ar
theorem SX.end_ (h:SX w W0 W lab a P n q T M sb pr l O0) (hl:l.length≤10000) (kd:Int) (x:Int) (g:Nat) (ar:Int):
  vCa 123 #[vPt sb,vI6 kd,.agg #[vI6 x,vU3 (g:Int)],vI6 ar] W fun e w'=>e= .panicked pOver∧SX w W0 w' lab a P n q T M sb pr (l++[⟨kd,(pr:Int),x,g,ar,0⟩]) O0:=h.call (R:=fun e=>e= .panicked pOver) fun _ s=>s.end_ hl kd x g ar
end
section
variable {w W W':World} {lab labk:Nat→Nat} {a:Ad} {P n q T T':Nat} {M M':Mc} {sb pr:Nat} {l:List Ev} {O O0:Nat→Prop} {W0:World}
theorem SG.ran_ok (h:SG w W lab a P n q T M sb pr l O) (hl:l.length≤10000) (x:Nat) (hx:x<n) (op ar:Int):
  vCa 166 #[vPt sb,.pointer (some (vAt a.th (x*10))),.agg #[vI6 op,vI6 ar],vI6 0] W fun e w'=>e=vRt #[]∧SX w W w' lab a P n q T M sb pr (l++[⟨5,(pr:Int),(M.th x).p,(M.th x).g,op,0⟩]) O:=by
 have hb0:vBw W (W.alloc (.cells #[vI6 op,vI6 ar] 83)):=bzA
 have h0:=(h.below hb0).sx
 have hno: ¬O W.heap.size:=fun q=>by have:=h.lt q;omega
 have HB0:=veil hb0
 have k0:=newc W #[vI6 op,vI6 ar] 83 0 _ rfl
 clear h hb0
 generalize hW:W.alloc (.cells #[vI6 op,vI6 ar] 83)=W0 at*
 have HW:=veil hW
 clear hW
 obtain⟨t,ht⟩: ∃t,M.th x=t:=⟨_,rfl⟩
 have d0:=(h0.tr hx).c0
 have d1:=(h0.tr hx).c1
 rw[ht] at d0 d1⊢
 have HT:Hid (∀W1 (hb:vBw W0 W1),vCa 120 #[vPt sb,vI6 5,.agg #[vI6 t.p,vU3 (t.g:Int)],vI6 op] W1 fun e w'=>e=vRt #[]∧SX w W0 w' lab a P n q T M sb pr (l++[⟨5,(pr:Int),t.p,t.g,op,0⟩]) O∧(w'.cell? (vA0 W.heap.size)=some (vI6 op)∧w'.cell? (vAt a.th (x*10))=some (vI6 t.p)∧w'.cell? (vAt a.th (x*10+1))=some (vU3 (t.g:Int)))):=fun W1 hb=>by
  refine((h0.more hb).tell hl 5 t.p t.g op).mono ?_
  grind[SX.tr,TrAt.c0,TrAt.c1,SX.keep]
 have H0:=veil (Below.refl W0.heap.size W0)
 clear h0 ht
 refine ge ?_
 go_wp2
 rw[HW.out]
 go_region_held3 (fun w'=>w'.cell? (vA0 W.heap.size)=some (vI6 op)∧w'.cell? (vAt a.th (x*10))=some (vI6 t.p)∧w'.cell? (vAt a.th (x*10+1))=some (vU3 (t.g:Int)))
  (first|exact HS1.out|go_keep)
  (first
   |(go_at_call 120;refine cI (HT.out _ (by exact bp H0.out rfl rfl rfl rfl)) fun w1 HG HS1=> ?_))
 go_wp2
 go_end0
 grind[RowKit.Hid.out,SX.ahead]
theorem SX.leave (h:SX w W0 W lab a P n q T M sb pr l O0) (hp:pr<P) (x:Nat) (hx:x<n) (s:Nat):
  vCa 170 #[vPt sb,.pointer (some (vAt a.th (x*10))),vI6 (s:Int)] W fun e w'=>e=vRt #[]∧SX w W0 w' lab a P n q T (setR {M with S:=moveS n M.G M.S (M.th x).p (M.th x).g s} pr (-1)) sb pr l O0:=by
 obtain⟨t,ht⟩: ∃t,M.th x=t:=⟨_,rfl⟩
 rw[ht]
 have HM:=veil fun W (h:SX w W0 W lab a P n q T M sb pr l O0)=>h.lift (R:=fun e=> ∃c:Int,e= .returned (vI6 c)) fun _ i=>i.goes.move t.p t.g s
 have HC:Hid (∀W M',M'.th x=t→SX w W0 W lab a P n q T M' sb pr l O0→W.cell? (vA0 sb)=some (vPt a.m)∧W.cell? (vAt a.m 5)=some (vPt a.tb)∧W.cell? (vAt a.th (x*10))=some (vI6 t.p)∧W.cell? (vAt a.th (x*10+1))=some (vU3 (t.g:Int))):=fun W M' e h=>⟨h.c0,h.core.c5,by rw[←e];exact(h.tr hx).c0,by rw[←e];exact(h.tr hx).c1⟩
 have HN:Hid (∀W,SX w W0 W lab a P n q T {M with S:=moveS n M.G M.S t.p t.g s} sb pr l O0→W.cell? (vAt sb 2)=some (.pointer (some (vAt a.pr (pr*3))))∧W.cell? (vAt a.pr (pr*3))=some (vI6 (M.pc pr).r)∧W.frozen? (vAt a.pr (pr*3))=false∧SX w W0 (W.setCell (vAt a.pr (pr*3)) (vI6 (-1))) lab a P n q T (setR {M with S:=moveS n M.G M.S t.p t.g s} pr (-1)) sb pr l O0):=fun W h=>⟨h.c2,(h.pc hp).c0,h.pfz _,h.setRun hp (-1)⟩
 have H0:=veil h
 obtain⟨c0,c5,d0,d1⟩:=HC.out _ _ ht h
 have HC2:=veil (fun W h=>HC.out W {M with S:=moveS n M.G M.S t.p t.g s} ht h)
 clear h ht HC
 refine ge ?_
 go_wp2
 go_region_held3 (fun w'=>w'.cell? (vA0 sb)=some (vPt a.m)∧w'.cell? (vAt a.m 5)=some (vPt a.tb)∧w'.cell? (vAt a.th (x*10))=some (vI6 t.p)∧w'.cell? (vAt a.th (x*10+1))=some (vU3 (t.g:Int)))
  (first|exact HC2.out _ HG.out|go_keep)
  (first
   |(go_at_call 94;refine(HM.out _ (by exact SX.like H0.out rfl rfl rfl rfl)).mono ?_;rintro e w1 ⟨⟨c,rfl⟩,hg⟩;have HG:=veil hg;clear hg))
 obtain⟨z2,z0,z1,hz⟩:=HN.out _ HG.out
 have HZ:=veil hz
 clear hz c0 c5 d0 d1
 go_wp2
 go_end0
 exact⟨rfl,HZ.out⟩
end
structure KAt (W:World) (b:Nat) (k:Ke.K):Prop where
 c0:W.cell? (vA0 b)=some (.bool k.e)
 c1:W.cell? (vAt b 1)=some (vU6 k.d)
 c2:W.cell? (vAt b 2)=some (vU8 k.l)
theorem KAt.new (W:World) (k:Ke.K):KAt (W.alloc (.cells (vKy k) 120)) W.heap.size k:=⟨newc _ _ _ 0 _ rfl,newc _ _ _ 1 _ rfl,newc _ _ _ 2 _ rfl⟩
theorem bt' {W W1 V:World} (h:vBw W W1) (h':vBw W1 V):vBw W V:=bt h h'
theorem KeyN.put3 {W:World} {b:Nat} (r0:W.cell? (vA0 b)=some (.bool false)) (r1:W.cell? (vAt b 1)=some (vU6 0)) (r2:W.cell? (vAt b 2)=some (vU8 0)) (k:Ke.K):KAt (((W.setCell (vA0 b) (.bool k.e)).setCell (vAt b 1) (vU6 k.d)).setCell (vAt b 2) (vU8 k.l)) b k:=
 ⟨(cfar _ (by decide)).trans ((cfar _ (by decide)).trans (Gt.set_same _ _ _ _ r0)),(cfar _ (by decide)).trans (Gt.set_same _ _ _ _ ((cfar _ (by decide)).trans r1)),Gt.set_same _ _ _ _ ((cfar _ (by decide)).trans ((cfar _ (by decide)).trans r2))⟩
theorem KAt.low {W W':World} {b:Nat} {k:Ke.K} (h:KAt W b k) (hb:vBw W W'):KAt W' b k:=⟨kc hb h.c0,kc hb h.c1,kc hb h.c2⟩
section
variable {w W W':World} {lab labk:Nat→Nat} {a:Ad} {P n q T T':Nat} {M M':Mc} {sb pr:Nat} {l:List Ev} {O O0:Nat→Prop} {W0:World}
theorem IsMc.best (h:IsMc W labk a P n q T M) (p d:Int) (hd:0≤d∧d<18446744073709551616):
  vQ 118 #[vPt a.pb,vI6 p,vU6 d] W (.tuple #[vI6 (bI (gh M.pl) (bb P (gh M.pl) p d)),.agg (vKy (bK (gh M.pl) (bb P (gh M.pl) p d))),vI6 (bA (bb P (gh M.pl) p d)),.bool (bb P (gh M.pl) p d).isSome]):=by
 obtain⟨O,hp,hO⟩:=h.pl
 exact hp.best p d hd
theorem IsMc.take (h:IsMc W labk a P n q T M) (p d:Int) (hd:0≤d∧d<18446744073709551616):
  vCa 122 #[vPt a.pb,vI6 p,vU6 d] W fun e w'=>e=vRt #[vI6 (bI (gh M.pl) (bb P (gh M.pl) p d)),.agg (vKy (bK (gh M.pl) (bb P (gh M.pl) p d))),vI6 (bA (bb P (gh M.pl) p d)),.bool (bb P (gh M.pl) p d).isSome]∧Goes W w' labk a P n q (T+1) {M with pl:=ptkG P (gh M.pl) p d}:=by
 obtain⟨O,hp,hO⟩:=h.pl
 refine(hp.take p d hd).mono ?_
 rintro e w' ⟨rfl,hp',hf⟩
 have h8:Fr (fun k=>labk k=8) W w':=hf.to (fun k _ hk=>hO k hk)
 exact⟨rfl,labk,h.toPl (h.same h8) h8 hp' hO,h.same h8,h8.to (fun k _ hk=>by omega)⟩
noncomputable def gives (P:Nat) (M:Mc) (pr:Nat) (d:Int):Bool:=
 (Ke.up (bK (gh M.pl) (bb P (gh M.pl) (pr:Int) d)) (Pi.keyA M.gr.T M.gr.L (M.pc pr).r)||((M.pc pr).m&& !Ke.up (Pi.keyA M.gr.T M.gr.L (M.pc pr).r) (bK (gh M.pl) (bb P (gh M.pl) (pr:Int) d))))
theorem SX.giveWay_not (h:SX w W0 W lab a P n q T M sb pr l O0) (hp:pr<P) (d:Int) (hd:0≤d∧d<18446744073709551616) (hno:(M.pc pr).r= -1∨(bb P (gh M.pl) (pr:Int) d).isSome=false):
  vCa 75 #[vPt sb,vU6 d] W fun e w'=>e=vRt #[]∧SX w W0 w' lab a P n q T M sb pr l O0:=by
 have HBS:Hid (∀V,vBw W V→vCa 118 #[vPt a.pb,vI6 (pr:Int),vU6 d] V fun e w'=>e=vRt #[vI6 (bI (gh M.pl) (bb P (gh M.pl) (pr:Int) d)),.agg (vKy (bK (gh M.pl) (bb P (gh M.pl) (pr:Int) d))),vI6 (bA (bb P (gh M.pl) (pr:Int) d)),.bool (bb P (gh M.pl) (pr:Int) d).isSome]∧vBw W w'∧ ∀b,KeyN V b→KeyN w' b):=fun V hb=>by
  obtain⟨lk,i⟩:=(h.more hb).i
  exact(i.best (pr:Int) d hd).mono (fun _ _ ⟨e,b⟩=>⟨e,bt hb b,fun _ k=>k.kept b⟩)
 have HC:Hid (∀V,vBw W V→V.cell? (vA0 sb)=some (vPt a.m)∧V.cell? (vAt sb 1)=some (vI6 (pr:Int))∧V.cell? (vAt a.m 8)=some (vPt a.pb)):=fun V hb=>⟨(h.more hb).c0,(h.more hb).c1,(h.more hb).core.c8⟩
 have HD:Hid (∀V,vBw W V→V.cell? (vAt sb 2)=some (.pointer (some (vAt a.pr (pr*3))))∧V.cell? (vAt a.pr (pr*3))=some (vI6 (M.pc pr).r)∧V.cell? (vAt a.pr (pr*3+2))=some (.bool (M.pc pr).m)):=fun V hb=>⟨(h.more hb).c2,((h.more hb).pc hp).c0,((h.more hb).pc hp).c2⟩
 have H0:=veil (Below.refl W.heap.size W)
 have HS:=veil h
 obtain⟨c0,c1,c8⟩:=HC.out _ H0.out
 have HKN:=veil (KeyN.new W)
 have n1: ¬sb=W.heap.size:=by have:sb<W.heap.size:=World.block_lt_of_cell? W _ c0;omega
 have n2: ¬W.heap.size=sb:=fun e=>n1 e.symm
 have n3: ¬a.m=W.heap.size:=by have:a.m<W.heap.size:=World.block_lt_of_cell? W _ c8;omega
 have n4: ¬W.heap.size=a.m:=fun e=>n3 e.symm
 clear h
 generalize bI (gh M.pl) (bb P (gh M.pl) (pr:Int) d)=bi at*
 generalize bK (gh M.pl) (bb P (gh M.pl) (pr:Int) d)=bk at*
 generalize bA (bb P (gh M.pl) (pr:Int) d)=ba at*
 generalize (bb P (gh M.pl) (pr:Int) d).isSome=ok at*
 generalize (M.pc pr).r=r at*
 refine ge ?_
 go_wp2
 go_region_held3 (fun w'=>w'.cell? (vA0 sb)=some (vPt a.m)∧w'.cell? (vAt sb 1)=some (vI6 (pr:Int))∧w'.cell? (vAt a.m 8)=some (vPt a.pb))
  (first|exact HC.out _ HB1.out|exact HC.out _ (HB1.out.alloc HB1.out.size _)|go_keep)
  (first
   |(go_at_call 118;refine(HBS.out _ (by exact below_post H0.out rfl rfl rfl rfl)).mono ?_;rintro e w1 ⟨rfl,hg,hkn⟩;have HB1:=veil hg;clear hg hkn)
   |(go_at_call 118;refine(HBS.out _ (by exact below_post ((Below.refl W.heap.size W).alloc lzr _) rfl rfl rfl rfl)).mono ?_;rintro e w1 ⟨rfl,hg,hkn⟩;have HB1:=veil hg;obtain⟨r0,r1,r2,f0,f1,f2⟩:=hkn _ (HKN.out.kept (by exact bp bzR rfl rfl rfl rfl));clear hg hkn))
 all_goals (rename_i hHeld;clear hHeld)
 all_goals first
  |(have HBc:=veil (bset (bset (bset HB1.out (a:=(vA0 W.heap.size)) lzr (.bool bk.e)) (a:=(vAt W.heap.size 1)) lzr (vU6 bk.d)) (a:=(vAt W.heap.size 2)) lzr (vU8 bk.l));have HKA:Hid (KAt (((w1.setCell (vA0 W.heap.size) (.bool bk.e)).setCell (vAt W.heap.size 1) (vU6 bk.d)).setCell (vAt W.heap.size 2) (vU8 bk.l)) W.heap.size bk):=(KeyN.put3 r0 r1 r2 bk);clear r0 r1 r2 f0 f1 f2 HB1;generalize ((w1.setCell (vA0 W.heap.size) (.bool bk.e)).setCell (vAt W.heap.size 1) (vU6 bk.d)).setCell (vAt W.heap.size 2) (vU8 bk.l)=Wc at*;obtain⟨kb,hkb⟩: ∃kb,W.heap.size=kb:=⟨_,rfl⟩;rw[hkb] at HKA)
  |(have HBc:=veil (HB1.out.alloc HB1.out.size (.cells (vKy bk) 120));have HKA:=veil (KAt.new w1 bk);clear HB1;generalize w1.alloc (.cells (vKy bk) 120)=Wc at*;obtain⟨kb,hkb⟩: ∃kb,w1.heap.size=kb:=⟨_,rfl⟩;rw[hkb] at HKA)
 all_goals rw[hkb]
 all_goals clear hkb c0 c1 c8 n1 n2 n3 n4
 all_goals obtain⟨z2,z0,zm⟩:=HD.out _ HBc.out
 all_goals
  by_cases hr:r= -1
  ·subst hr
   go_wp2
   simp[bodyPost,results,Tryz.results75,go_sem]
   exact HS.out.more HBc.out
  ·have hok:=hno.resolve_left hr
   subst hok
   have hrb:(r== -1)=false:=by simp[hr]
   go_wp2
   simp[bodyPost,results,Tryz.results75,go_sem]
   exact HS.out.more HBc.out
noncomputable def keyX (M:Mc) (x:Nat):Ke.K:=Pi.keyA M.gr.T M.gr.L (x:Int)
theorem SX.giveWay_run (h:SX w W0 W lab a P n q T M sb pr l O0) (hp:pr<P) (d:Int) (hd:0≤d∧d<18446744073709551616) (x:Nat) (hx:x<n) (hr:(M.pc pr).r=(x:Int)) (hok:(bb P (gh M.pl) (pr:Int) d).isSome=true) (g:Bool) (hg:gives P M pr d=g) (hl:g=true→l.length≤10000) (hT:g=true→T+n≤1000000000):
  vCa 75 #[vPt sb,vU6 d] W fun e w'=>e=vRt #[]∧SX w W0 w' lab a P n q (cond g (T+n+1) T) (cond g (backM P n q M pr x) M) sb pr (cond g (l++[⟨4,(pr:Int),(M.th x).p,(M.th x).g,0,0⟩]) l) O0:=by
 obtain⟨t,ht⟩: ∃t,M.th x=t:=⟨_,rfl⟩
 have hx':(x:Int)<(n:Int):=by omega
 rw[ht]
 have HTL:Hid (g=true→ ∀V,SX w W0 V lab a P n q T M sb pr l O0→vCa 120 #[vPt sb,vI6 4,.agg #[vI6 t.p,vU3 (t.g:Int)],vI6 0] V fun e w'=>e=vRt #[]∧SX w W0 w' lab a P n q T M sb pr (l++[⟨4,(pr:Int),t.p,t.g,0,0⟩]) O0):=fun q V h=>h.tell (hl q) 4 t.p t.g 0
 have HPB:Hid (g=true→ ∀V,SX w W0 V lab a P n q T M sb pr (l++[⟨4,(pr:Int),t.p,t.g,0,0⟩]) O0→vCa 121 #[vPt sb] V fun e w'=>e=vRt #[]∧SX w W0 w' lab a P n q (T+n+1) (backM P n q M pr x) sb pr (l++[⟨4,(pr:Int),t.p,t.g,0,0⟩]) O0):=fun q V h=>h.putBack (hT q) hp x hx hr
 have HC4:Hid (∀V l,SX w W0 V lab a P n q T M sb pr l O0→V.cell? (vA0 sb)=some (vPt a.m)∧V.cell? (vAt a.m 4)=some (.slice (some (vA0 a.th)) n a.xt)∧V.cell? (vAt sb 2)=some (.pointer (some (vAt a.pr (pr*3))))∧V.cell? (vAt a.pr (pr*3))=some (vI6 (x:Int))∧V.cell? (vAt a.th (x*10))=some (vI6 t.p)∧V.cell? (vAt a.th (x*10+1))=some (vU3 (t.g:Int))):=fun V l h=>⟨h.c0,h.core.c4,h.c2,by rw[←hr];exact(h.pc hp).c0,by rw[←ht];exact(h.tr hx).c0,by rw[←ht];exact(h.tr hx).c1⟩
 have HKY:Hid (∀V,vBw W V→vCa 83 #[vPt a.gb,vI6 (x:Int)] V fun e w'=>e= .returned (.agg (vKy (keyX M x)))∧vBw W w'∧vBw V w'):=fun V hb=>by
  obtain⟨lk,i⟩:=(h.more hb).i
  exact(i.key (x:Int)).mono (fun _ _ ⟨e,b⟩=>⟨e,bt hb b,b⟩)
 have HAB:=veil (fun V (hb:vBw W V) k k'=>(Ke.above_ok V k k').mono (fun _ _ ⟨e,b⟩=>And.intro e (And.intro (bt hb b) b)))
 have HC7:Hid (∀V,vBw W V→V.cell? (vA0 sb)=some (vPt a.m)∧V.cell? (vAt a.m 7)=some (vPt a.gb)):=fun V hb=>⟨(h.more hb).c0,(h.more hb).core.c7⟩
 unfold gives at hg
 rw[hr] at hg
 have hgk:(Ke.up (bK (gh M.pl) (bb P (gh M.pl) (pr:Int) d)) (keyX M x)||((M.pc pr).m&& !Ke.up (keyX M x) (bK (gh M.pl) (bb P (gh M.pl) (pr:Int) d))))=g:=hg
 clear hg
 have HBS:Hid (∀V,vBw W V→vCa 118 #[vPt a.pb,vI6 (pr:Int),vU6 d] V fun e w'=>e=vRt #[vI6 (bI (gh M.pl) (bb P (gh M.pl) (pr:Int) d)),.agg (vKy (bK (gh M.pl) (bb P (gh M.pl) (pr:Int) d))),vI6 (bA (bb P (gh M.pl) (pr:Int) d)),.bool (bb P (gh M.pl) (pr:Int) d).isSome]∧vBw W w'∧ ∀b,KeyN V b→KeyN w' b):=fun V hb=>by
  obtain⟨lk,i⟩:=(h.more hb).i
  exact(i.best (pr:Int) d hd).mono (fun _ _ ⟨e,b⟩=>⟨e,bt hb b,fun _ k=>k.kept b⟩)
 have HC:Hid (∀V,vBw W V→V.cell? (vA0 sb)=some (vPt a.m)∧V.cell? (vAt sb 1)=some (vI6 (pr:Int))∧V.cell? (vAt a.m 8)=some (vPt a.pb)):=fun V hb=>⟨(h.more hb).c0,(h.more hb).c1,(h.more hb).core.c8⟩
 have HD:Hid (∀V,vBw W V→V.cell? (vAt sb 2)=some (.pointer (some (vAt a.pr (pr*3))))∧V.cell? (vAt a.pr (pr*3))=some (vI6 (M.pc pr).r)∧V.cell? (vAt a.pr (pr*3+2))=some (.bool (M.pc pr).m)):=fun V hb=>⟨(h.more hb).c2,((h.more hb).pc hp).c0,((h.more hb).pc hp).c2⟩
 have H0:=veil (Below.refl W.heap.size W)
 have HS:=veil h
 obtain⟨c0,c1,c8⟩:=HC.out _ H0.out
 have HKN:=veil (KeyN.new W)
 have n1: ¬sb=W.heap.size:=by have:sb<W.heap.size:=World.block_lt_of_cell? W _ c0;omega
 have n2: ¬W.heap.size=sb:=fun e=>n1 e.symm
 have n3: ¬a.m=W.heap.size:=by have:a.m<W.heap.size:=World.block_lt_of_cell? W _ c8;omega
 have n4: ¬W.heap.size=a.m:=fun e=>n3 e.symm
 rw[hr] at HD
 clear h hr ht
 generalize bI (gh M.pl) (bb P (gh M.pl) (pr:Int) d)=bi at*
 generalize bK (gh M.pl) (bb P (gh M.pl) (pr:Int) d)=bk at*
 generalize bA (bb P (gh M.pl) (pr:Int) d)=ba at*
 generalize (bb P (gh M.pl) (pr:Int) d).isSome=ok at*
 subst hok
 generalize keyX M x=kx at*
 generalize (M.pc pr).m=mk at*
 have hxb:((x:Int)== -1)=false:=by simp
 refine ge ?_
 go_wp2
 go_region_held3 (fun w'=>w'.cell? (vA0 sb)=some (vPt a.m)∧w'.cell? (vAt sb 1)=some (vI6 (pr:Int))∧w'.cell? (vAt a.m 8)=some (vPt a.pb))
  (first|exact HC.out _ HB1.out|exact HC.out _ (HB1.out.alloc HB1.out.size _)|go_keep)
  (first
   |(go_at_call 118;refine(HBS.out _ (by exact below_post H0.out rfl rfl rfl rfl)).mono ?_;rintro e w1 ⟨rfl,hg,hkn⟩;have HB1:=veil hg;clear hg hkn)
   |(go_at_call 118;refine(HBS.out _ (by exact below_post ((Below.refl W.heap.size W).alloc lzr _) rfl rfl rfl rfl)).mono ?_;rintro e w1 ⟨rfl,hg,hkn⟩;have HB1:=veil hg;obtain⟨r0,r1,r2,f0,f1,f2⟩:=hkn _ (HKN.out.kept (by exact bp bzR rfl rfl rfl rfl));clear hg hkn))
 all_goals (rename_i hHeld;clear hHeld)
 all_goals first
  |(have HBc:=veil (bset (bset (bset HB1.out (a:=(vA0 W.heap.size)) lzr (.bool bk.e)) (a:=(vAt W.heap.size 1)) lzr (vU6 bk.d)) (a:=(vAt W.heap.size 2)) lzr (vU8 bk.l));have HKA:Hid (KAt (((w1.setCell (vA0 W.heap.size) (.bool bk.e)).setCell (vAt W.heap.size 1) (vU6 bk.d)).setCell (vAt W.heap.size 2) (vU8 bk.l)) W.heap.size bk):=(KeyN.put3 r0 r1 r2 bk);clear r0 r1 r2 f0 f1 f2 HB1;generalize ((w1.setCell (vA0 W.heap.size) (.bool bk.e)).setCell (vAt W.heap.size 1) (vU6 bk.d)).setCell (vAt W.heap.size 2) (vU8 bk.l)=Wc at*;obtain⟨kb,hkb⟩: ∃kb,W.heap.size=kb:=⟨_,rfl⟩;rw[hkb] at HKA)
  |(have HBc:=veil (HB1.out.alloc HB1.out.size (.cells (vKy bk) 120));have HKA:=veil (KAt.new w1 bk);clear HB1;generalize w1.alloc (.cells (vKy bk) 120)=Wc at*;obtain⟨kb,hkb⟩: ∃kb,w1.heap.size=kb:=⟨_,rfl⟩;rw[hkb] at HKA)
 all_goals rw[hkb]
 all_goals clear hkb c0 c1 c8 n1 n2 n3 n4
 all_goals obtain⟨z2,z0,zm⟩:=HD.out _ HBc.out
 all_goals go_upto_region 2 with fail
 all_goals have HK2:Hid (∀V,vBw Wc V→vCa 83 #[vPt a.gb,vI6 (x:Int)] V fun e w'=>e= .returned (.agg (vKy kx))∧vBw Wc w'∧ ∀b,KeyN V b→KeyN w' b):=fun V hb=>(HKY.out V (bt' HBc.out hb)).mono (fun _ _ ⟨e,b1,b2⟩=>⟨e,bt hb b2,fun _ k=>k.kept b2⟩)
 all_goals have HC2:Hid (∀V,vBw Wc V→V.cell? (vA0 sb)=some (vPt a.m)∧V.cell? (vAt a.m 7)=some (vPt a.gb)∧V.cell? (vAt sb 2)=some (.pointer (some (vAt a.pr (pr*3))))∧V.cell? (vAt a.pr (pr*3))=some (vI6 (x:Int))):=fun V hb=>⟨(HC7.out V (bt' HBc.out hb)).1,(HC7.out V (bt' HBc.out hb)).2,(HD.out V (bt' HBc.out hb)).1,(HD.out V (bt' HBc.out hb)).2.1⟩
 all_goals obtain⟨y0,y7,y2,yr⟩:=HC2.out _ bzR
 all_goals have HKM:=veil (KeyN.new Wc)
 all_goals have H2:=veil (Below.refl Wc.heap.size Wc)
 all_goals have m1: ¬sb=Wc.heap.size:=by have:sb<Wc.heap.size:=World.block_lt_of_cell? Wc _ y0;omega
 all_goals have m2: ¬Wc.heap.size=sb:=fun e=>m1 e.symm
 all_goals have m3: ¬a.m=Wc.heap.size:=by have:a.m<Wc.heap.size:=World.block_lt_of_cell? Wc _ y7;omega
 all_goals have m4: ¬Wc.heap.size=a.m:=fun e=>m3 e.symm
 all_goals have m5: ¬a.pr=Wc.heap.size:=by have:a.pr<Wc.heap.size:=World.block_lt_of_cell? Wc _ yr;omega
 all_goals have m6: ¬Wc.heap.size=a.pr:=fun e=>m5 e.symm
 all_goals clear z2 z0 zm
 all_goals go_region_held3 (fun w'=>w'.cell? (vA0 sb)=some (vPt a.m)∧w'.cell? (vAt a.m 7)=some (vPt a.gb)∧w'.cell? (vAt sb 2)=some (.pointer (some (vAt a.pr (pr*3))))∧w'.cell? (vAt a.pr (pr*3))=some (vI6 (x:Int)))
  (first|exact HC2.out _ HB2.out|exact HC2.out _ (HB2.out.alloc HB2.out.size _)|go_keep)
  (first
   |(go_at_call 83;refine(HK2.out _ (by exact below_post H2.out rfl rfl rfl rfl)).mono ?_;rintro e w2 ⟨rfl,hg,hkn⟩;have HB2:=veil hg;clear hg hkn)
   |(go_at_call 83;refine(HK2.out _ (by exact below_post ((Below.refl Wc.heap.size Wc).alloc lzr _) rfl rfl rfl rfl)).mono ?_;rintro e w2 ⟨rfl,hg,hkn⟩;have HB2:=veil hg;obtain⟨r0,r1,r2,f0,f1,f2⟩:=hkn _ (HKM.out.kept (by exact bp bzR rfl rfl rfl rfl));clear hg hkn))
 all_goals (rename_i hHeld;clear hHeld)
 all_goals first
  |(have HBe:=veil (bset (bset (bset HB2.out (a:=(vA0 Wc.heap.size)) lzr (.bool kx.e)) (a:=(vAt Wc.heap.size 1)) lzr (vU6 kx.d)) (a:=(vAt Wc.heap.size 2)) lzr (vU8 kx.l));have HKB:Hid (KAt (((w2.setCell (vA0 Wc.heap.size) (.bool kx.e)).setCell (vAt Wc.heap.size 1) (vU6 kx.d)).setCell (vAt Wc.heap.size 2) (vU8 kx.l)) Wc.heap.size kx):=(KeyN.put3 r0 r1 r2 kx);clear r0 r1 r2 f0 f1 f2 HB2;generalize ((w2.setCell (vA0 Wc.heap.size) (.bool kx.e)).setCell (vAt Wc.heap.size 1) (vU6 kx.d)).setCell (vAt Wc.heap.size 2) (vU8 kx.l)=Wd at*;obtain⟨kb2,hkb⟩: ∃kb2,Wc.heap.size=kb2:=⟨_,rfl⟩;rw[hkb] at HKB)
  |(have HBe:=veil (HB2.out.alloc HB2.out.size (.cells (vKy kx) 120));have HKB:=veil (KAt.new w2 kx);clear HB2;generalize w2.alloc (.cells (vKy kx) 120)=Wd at*;obtain⟨kb2,hkb⟩: ∃kb2,w2.heap.size=kb2:=⟨_,rfl⟩;rw[hkb] at HKB)
 all_goals rw[hkb]
 all_goals clear hkb y0 y7 y2 yr m1 m2 m3 m4 m5 m6
 all_goals have HBd:=veil (bt' HBc.out HBe.out)
 all_goals obtain⟨z2,z0,zm⟩:=HD.out _ HBd.out
 all_goals obtain⟨p0,p1,p2⟩:=HKB.out
 all_goals obtain⟨q0,q1,q2⟩:=HKA.out.low HBe.out
 all_goals
  cases g with
  |true=>
   cases hu1:Ke.up bk kx
   case' false=>
    rw[hu1] at hgk
    have hmk:mk=true:=by grind
    subst hmk
    have hu2:Ke.up kx bk=false:=by grind
   all_goals
    go_upto_region 4 with (first
     |(go_at_call 119;(have hh:=HB5.out;clear hh);refine(HAB.out _ HB5.out _ _).mono ?_;rintro e w6 ⟨rfl,hb7,hb8⟩;have HB6:=veil hb7;clear hb7 hb8)
     |(go_at_call 119;refine(HAB.out _ HBd.out _ _).mono ?_;rintro e w5 ⟨rfl,hb5,hb6⟩;have HB5:=veil hb5;obtain⟨z2,z0,zm⟩:=HD.out _ hb5;obtain⟨p0,p1,p2⟩:=HKB.out.low hb6;obtain⟨q0,q1,q2⟩:=(HKA.out.low HBe.out).low hb6;clear hb5 hb6))
    first|have HSX:=veil (HS.out.more HB6.out)|have HSX:=veil (HS.out.more HB5.out)
    obtain⟨g0,g4,g2,gr,gp,gg⟩:=HC4.out _ _ HSX.out
    clear z2 z0 zm p0 p1 p2 q0 q1 q2
    go_region_held3 (fun w'=>w'.cell? (vA0 sb)=some (vPt a.m)∧w'.cell? (vAt a.m 4)=some (.slice (some (vA0 a.th)) n a.xt)∧w'.cell? (vAt sb 2)=some (.pointer (some (vAt a.pr (pr*3))))∧w'.cell? (vAt a.pr (pr*3))=some (vI6 (x:Int))∧w'.cell? (vAt a.th (x*10))=some (vI6 t.p)∧w'.cell? (vAt a.th (x*10+1))=some (vU3 (t.g:Int)))
     (first|exact HC4.out _ _ HT7.out|go_keep)
     (first
      |(go_at_call 120;refine cH (HTL.out (by trivial) _ (by exact SX.like HSX.out rfl rfl rfl rfl)) fun w7 HT7=> ?_))
    go_wp2_with (first
     |(go_at_call 121;refine cH (HPB.out (by trivial) _ HT7.out) fun w8 HT8=> ?_))
    go_end0
    exact⟨rfl,HT8.out⟩
  |false=>
   have hu1:Ke.up bk kx=false:=by grind
   rw[hu1] at hgk
   cases mk
   case' true=>have hu2:Ke.up kx bk=true:=by grind
   all_goals
    go_wp2_with (first
     |(go_at_call 119;(have hh:=HB5.out;clear hh);refine(HAB.out _ HB5.out _ _).mono ?_;rintro e w6 ⟨rfl,hb7,hb8⟩;have HB6:=veil hb7;clear hb7 hb8)
     |(go_at_call 119;refine(HAB.out _ HBd.out _ _).mono ?_;rintro e w5 ⟨rfl,hb5,hb6⟩;have HB5:=veil hb5;obtain⟨z2,z0,zm⟩:=HD.out _ hb5;obtain⟨p0,p1,p2⟩:=HKB.out.low hb6;obtain⟨q0,q1,q2⟩:=(HKA.out.low HBe.out).low hb6;clear hb5 hb6))
    go_end0
    first|exact⟨rfl,HS.out.more HB6.out⟩|exact⟨rfl,HS.out.more HB5.out⟩
theorem SX.giveWay_stay (h:SX w W0 W lab a P n q T M sb pr l O0) (hp:pr<P) (d:Int) (hd:0≤d∧d<18446744073709551616) (x:Nat) (hx:x<n) (hr:(M.pc pr).r=(x:Int)) (hok:(bb P (gh M.pl) (pr:Int) d).isSome=true) (hg:gives P M pr d=false):
  vCa 75 #[vPt sb,vU6 d] W fun e w'=>e=vRt #[]∧SX w W0 w' lab a P n q T M sb pr l O0:=
 h.giveWay_run hp d hd x hx hr hok false hg (fun q=>by cases q) (fun q=>by cases q)
theorem SX.giveWay_go (h:SX w W0 W lab a P n q T M sb pr l O0) (hl:l.length≤10000) (hT:T+n≤1000000000) (hp:pr<P) (d:Int) (hd:0≤d∧d<18446744073709551616) (x:Nat) (hx:x<n) (hr:(M.pc pr).r=(x:Int)) (hok:(bb P (gh M.pl) (pr:Int) d).isSome=true) (hg:gives P M pr d=true):
  vCa 75 #[vPt sb,vU6 d] W fun e w'=>e=vRt #[]∧SX w W0 w' lab a P n q (T+n+1) (backM P n q M pr x) sb pr (l++[⟨4,(pr:Int),(M.th x).p,(M.th x).g,0,0⟩]) O0:=
 h.giveWay_run hp d hd x hx hr hok true hg (fun _=>hl) (fun _=>hT)
end
section
variable {w W W':World} {lab labk:Nat→Nat} {a:Ad} {P n q T T':Nat} {M M':Mc} {sb pr:Nat} {l l':List Ev} {O O0:Nat→Prop} {W0:World}
theorem SG.setBox (h:SG w W lab a P n q T M sb pr l O) {b:Nat} (hb: ¬O b) (hw:w.heap.size≤b) (o:Nat) (u:Value):SG w (W.setCell (vAt b o) u) lab a P n q T M sb pr l O:=by
 obtain⟨k,v,s,ho⟩:=h
 have hl:=Classical.byContradiction fun q=>hb ((ho b).2 (.inl q))
 have hsb:sb≠b:=fun q=>(by grind)
 have hv:v.ownBlock≠some b:=fun q=>(by grind)
 have ec: ∀o',(W.setCell (vAt b o) u).cell? (vAt sb o')=W.cell? (vAt sb o'):=fun o'=>Gt.set_other _ _ _ _ _ _ (by omega)
 exact⟨k,v,⟨s.at_.set hw hl o u,(ec _).trans s.c0,(ec _).trans s.c1,(ec _).trans s.c2,(ec _).trans s.c3,row_keptF s.hv (fun j q=>Below.heap_setCell _ _ _ _ (by grind)),s.hk,fun o'=>by rw[frozen_set];exact s.fz o',s.ls,s.ws⟩,ho⟩
theorem SX.base (h:SX w W0 W lab a P n q T M sb pr l O0): ∃O,SG w W lab a P n q T M sb pr l O∧ ∀(Wc:World) (T':Nat) (M':Mc) (l':List Ev),SX w W Wc lab a P n q T' M' sb pr l' O→SX w W0 Wc lab a P n q T' M' sb pr l' O0:=by
 obtain⟨O,hs,hf,ho⟩:=h
 refine⟨O,hs,?_⟩
 rintro Wc T' M' l' ⟨O2,hs2,hf2,ho2⟩
 exact⟨O2,hs2,hf.then hf2 (by omega),fun k hk q=>ho k hk (ho2 k (Nat.lt_of_lt_of_le hk hf.size) q)⟩
theorem SG.wl (h:SG w W lab a P n q T M sb pr l O):w.heap.size≤W.heap.size:=by
 obtain⟨k,v,s,ho⟩:=h
 exact s.at_.f.size
noncomputable def tkM (P:Nat) (M:Mc) (pr:Nat) (d:Int):Mc:={M with pl:=ptkG P (gh M.pl) (pr:Int) d}
theorem SX.takeOne_runs (h:SX w W0 W lab a P n q T M sb pr l O0) (hp:pr<P) (d:Int) (hr:(M.pc pr).r≠ -1):
  vCa 76 #[vPt sb,vU6 d] W fun e w'=>e=vRt #[]∧SX w W0 w' lab a P n q T M sb pr l O0:=by
 have c2:=h.c2
 have r0:=(h.pc hp).c0
 have hrb:((M.pc pr).r != -1)=true:=by simp[hr]
 have HS:=veil h
 clear h
 generalize (M.pc pr).r=r at*
 refine ge ?_
 go_wp2
 simp[bodyPost,results,Tryz.results76,go_sem]
 exact HS.out
theorem SX.takeOne_idle (h:SX w W0 W lab a P n q T M sb pr l O0) (hl:l.length≤10000) (hp:pr<P) (d:Int) (hd:0≤d∧d<18446744073709551616) (hr:(M.pc pr).r= -1) (hok:(bb P (gh M.pl) (pr:Int) d).isSome=false):
  vCa 76 #[vPt sb,vU6 d] W fun e w'=>e= .panicked pOver∧SX w W0 w' lab a P n q (T+1) (tkM P M pr d) sb pr (l++[⟨1,(pr:Int),0,0,0,0⟩]) O0:=by
 have HEN:Hid (∀V,SX w W0 V lab a P n q (T+1) (tkM P M pr d) sb pr l O0→vCa 123 #[vPt sb,vI6 1,.agg #[vI6 0,vU3 0],vI6 0] V fun e w'=>e= .panicked pOver∧SX w W0 w' lab a P n q (T+1) (tkM P M pr d) sb pr (l++[⟨1,(pr:Int),0,0,0,0⟩]) O0):=fun V h=>h.end_ hl 1 0 0 0
 obtain⟨O,hs,hwrap⟩:=h.base
 have HTK:Hid (∀V,vBw W V→vCa 122 #[vPt a.pb,vI6 (pr:Int),vU6 d] V fun e w'=>e=vRt #[vI6 (bI (gh M.pl) (bb P (gh M.pl) (pr:Int) d)),.agg (vKy (bK (gh M.pl) (bb P (gh M.pl) (pr:Int) d))),vI6 (bA (bb P (gh M.pl) (pr:Int) d)),.bool (bb P (gh M.pl) (pr:Int) d).isSome]∧ ∃O1,SG w w' lab a P n q (T+1) (tkM P M pr d) sb pr l O1∧(W.heap.size<V.heap.size→ ¬O1 W.heap.size)∧Fr O W w'∧(∀k,k<W.heap.size→O1 k→O k)∧(KeyN V W.heap.size→KeyN w' W.heap.size)):=fun V hb=>by
  have hV:=hs.below hb
  have hn: ¬O W.heap.size:=fun q=>by have:=hs.lt q;omega
  obtain⟨lk,v,s,ho⟩:=id hV
  refine(s.at_.i.take (pr:Int) d hd).mono ?_
  rintro e w' ⟨rfl,hg⟩
  obtain⟨lab',A,hl,hf⟩:=s.at_.step hg
  have hl0:=Classical.byContradiction fun q=>hn ((ho _).2 (.inl q))
  have hle:=fun k (hk:k<V.heap.size) (q:(lab' k≠0∨k=sb∨v.ownBlock=some k))=>(ho k).2 (by
   grind)
  refine⟨rfl,_,⟨lab',v,s.keep A hl (fun b hb hl=>hf.box hl hb),fun _=>Iff.rfl⟩,?_,(ofBelow hb).then hf (fun k hk q=>(ho k).2 (.inl q)),fun k hk q=>hle k (Nat.lt_of_lt_of_le hk hb.size) q,fun kn=> ?_⟩
  ·grind
  ·have e:=hf.box hl0 (World.block_lt_of_cell? V _ kn.c0)
   exact⟨(World.cell?_of_block e).trans kn.c0,(World.cell?_of_block e).trans kn.c1,(World.cell?_of_block e).trans kn.c2,(World.frozen?_of_block e).trans kn.f0,(World.frozen?_of_block e).trans kn.f1,(World.frozen?_of_block e).trans kn.f2⟩
 have HC:Hid (∀V M' T',∀O1,SG w V lab a P n q T' M' sb pr l O1→V.cell? (vA0 sb)=some (vPt a.m)∧V.cell? (vAt sb 1)=some (vI6 (pr:Int))∧V.cell? (vAt a.m 8)=some (vPt a.pb)):=fun V M' T' O1 h=>⟨h.sx.c0,h.sx.c1,h.sx.core.c8⟩
 have hwl:=hs.wl
 have HWR:=veil hwrap
 have HS:=veil hs
 have H0:=veil (Below.refl W.heap.size W)
 have HKN:=veil (KeyN.new W)
 obtain⟨c0,c1,c8⟩:=HC.out _ _ _ _ hs
 have c2:=h.c2
 have r0:=(h.pc hp).c0
 have n1: ¬sb=W.heap.size:=by have:sb<W.heap.size:=World.block_lt_of_cell? W _ c0;omega
 have n2: ¬W.heap.size=sb:=fun e=>n1 e.symm
 have n3: ¬a.m=W.heap.size:=by have:a.m<W.heap.size:=World.block_lt_of_cell? W _ c8;omega
 have n4: ¬W.heap.size=a.m:=fun e=>n3 e.symm
 rw[hr] at r0
 clear h hs hwrap hr
 generalize bI (gh M.pl) (bb P (gh M.pl) (pr:Int) d)=bi at*
 generalize bK (gh M.pl) (bb P (gh M.pl) (pr:Int) d)=bk at*
 generalize bA (bb P (gh M.pl) (pr:Int) d)=ba at*
 generalize (bb P (gh M.pl) (pr:Int) d).isSome=ok at*
 have HAL:=veil fun w1 O1 T' M' (o:Obj) (h1:SG w w1 lab a P n q T' M' sb pr l O1) (h2:Fr O W w1) (h3:(∀k,k<W.heap.size→O1 k→O k))=>HWR.out _ _ _ _ ⟨O1,h1.below bzA,h2.then (ofBelow (S:=fun _=>False) ((Below.refl w1.heap.size w1).alloc lzr o)) (fun _ _ q=>q.elim),h3⟩
 have HAS:=veil fun w1 O1 T' M' u0 u1 u2 (h1:SG w w1 lab a P n q T' M' sb pr l O1) (hn: ¬O1 W.heap.size) (h2:Fr O W w1) (h3:(∀k,k<W.heap.size→O1 k→O k))=>HWR.out _ _ _ _ ⟨O1,((h1.setBox hn hwl 0 u0).setBox hn hwl 1 u1).setBox hn hwl 2 u2,h2.then ((((Fr.refl (fun k=>k=W.heap.size) w1).setCell (a:=(vA0 W.heap.size)) rfl u0).setCell (a:=(vAt W.heap.size 1)) rfl u1).setCell (a:=(vAt W.heap.size 2)) rfl u2) (fun k hk q=>by omega),h3⟩
 refine ge ?_
 go_wp2
 go_region_held3 (fun w'=>w'.cell? (vA0 sb)=some (vPt a.m)∧w'.cell? (vAt sb 1)=some (vI6 (pr:Int))∧w'.cell? (vAt a.m 8)=some (vPt a.pb))
  (first|exact HC.out _ _ _ _ HG1.out|exact HC.out _ _ _ _ (HG1.out.below bzA)|go_keep)
  (first
   |(go_at_call 122;refine(HTK.out _ (by exact below_post H0.out rfl rfl rfl rfl)).mono ?_;rintro e w1 ⟨rfl,O1,hg,_,hf1,ho1,_⟩;have HG1:=veil hg;have HF1:=veil hf1;have HO1:=veil ho1;clear hg hf1 ho1)
   |(go_at_call 122;refine(HTK.out _ (by exact below_post ((Below.refl W.heap.size W).alloc lzr _) rfl rfl rfl rfl)).mono ?_;rintro e w1 ⟨rfl,O1,hg,hno1,hf1,ho1,hkn⟩;have HG1:=veil hg;have HN1:=veil hno1;have HF1:=veil hf1;have HO1:=veil ho1;obtain⟨r0',r1,r2,f0,f1,f2⟩:=hkn (HKN.out.kept (by exact bp bzR rfl rfl rfl rfl));clear hg hno1 hf1 ho1 hkn))
 all_goals (rename_i hHeld;clear hHeld)
 all_goals first
  |(have HX:=veil (HAS.out w1 O1 _ _ (.bool bk.e) (vU6 bk.d) (vU8 bk.l) HG1.out (HN1.out (by simp)) HF1.out HO1.out);clear r0' r1 r2 f0 f1 f2;generalize ((w1.setCell (vA0 W.heap.size) (.bool bk.e)).setCell (vAt W.heap.size 1) (vU6 bk.d)).setCell (vAt W.heap.size 2) (vU8 bk.l)=Wc at*)
  |(have HX:=veil (HAL.out w1 O1 _ _ (.cells (vKy bk) 120) HG1.out HF1.out HO1.out);generalize w1.alloc (.cells (vKy bk) 120)=Wc at*)
 all_goals clear c0 c1 c8 n1 n2 n3 n4 c2 r0 HG1 HF1 HO1 HAL HAS HTK HC HKN H0 HS HWR
 all_goals subst hok
 all_goals go_wp2_with (first
  |(go_at_call 123;refine cH (HEN.out _ HX.out) fun w2 HG=> ?_))
 all_goals simp[bodyPost]
 all_goals exact HG.out
end
section
variable {w W W':World} {lab labk:Nat→Nat} {a:Ad} {P n q T T':Nat} {M M':Mc} {sb pr:Nat} {l l':List Ev} {O O0:Nat→Prop} {W0:World}
theorem IsMc.setDisp (h:IsMc W labk a P n q T M) {x:Nat} (hx:x<n) (p:Int) (f:Nat) (hf:f<256):
  Goes W ((W.setCell (vAt a.th (x*10+6)) (vI6 p)).setCell (vAt a.th (x*10+4)) (vU8 (f:Int))) labk a P n q T {M with th:=upd M.th x {M.th x with pc:=p,lf:=f}}:=by
 have ok:=h.th.ok x hx
 have hfr:Fr (fun k=>labk k=4) W ((W.setCell (vAt a.th (x*10+6)) (vI6 p)).setCell (vAt a.th (x*10+4)) (vU8 (f:Int))):=((Fr.refl _ _).setCell (a:=(vAt a.th _)) h.lth _).setCell (a:=(vAt a.th _)) h.lth _
 refine⟨labk,h.toTh (h.same hfr) hfr (h.th.put (((h.th.at_ x hx).set_pc p).set_lf f) ⟨ok.g,ok.lv,hf,ok.il,ok.sn⟩ (fun j hj hne=>((h.th.at_ j hj).far (by omega) _).far (by omega) _) (fun o=>by rw[frozen_set,frozen_set];exact h.th.fz o)),h.same hfr,hfr.to (by omega)⟩
theorem IsMc.setProc (h:IsMc W labk a P n q T M) (hp:pr<P) (r:Int) (s:Nat) (hs:s<18446744073709551616) (m:Bool):
  Goes W (((W.setCell (vAt a.pr (pr*3)) (vI6 r)).setCell (vAt a.pr (pr*3+1)) (vU6 (s:Int))).setCell (vAt a.pr (pr*3+2)) (.bool m)) labk a P n q T {M with pc:=upd M.pc pr ⟨r,s,m⟩}:=by
 have h3:Fr (fun k=>labk k=3) W (((W.setCell (vAt a.pr (pr*3)) (vI6 r)).setCell (vAt a.pr (pr*3+1)) (vU6 (s:Int))).setCell (vAt a.pr (pr*3+2)) (.bool m)):=(((Fr.refl _ _).setCell (a:=(vAt a.pr _)) h.lpr _).setCell (a:=(vAt a.pr _)) h.lpr _).setCell (a:=(vAt a.pr _)) h.lpr _
 refine⟨labk,h.toPc (h.same h3) h3 (h.pc.put ((((h.pc.at_ pr hp).set_r r).set_s s).set_m m) hs (fun j hj hne=>(((h.pc.at_ j hj).far (by omega) _).far (by omega) _).far (by omega) _) (fun o=>by rw[frozen_set,frozen_set,frozen_set];exact h.pc.fz o)),h.same h3,h3.to (by omega)⟩
noncomputable def dispA (P n:Nat) (M:Mc) (pr x:Nat) (d:Int):Mc:={tkM P M pr d with S:=moveS n M.G M.S (M.th x).p (M.th x).g 2}
noncomputable def dispB (P n:Nat) (M:Mc) (pr x:Nat) (d:Int):Mc:={dispA P n M pr x d with th:=upd M.th x {M.th x with pc:=(pr:Int),lf:=(agedOf M (M.th x)).toNat}}
noncomputable def dispM (P n:Nat) (M:Mc) (pr x:Nat) (d:Int):Mc:={dispB P n M pr x d with pc:=upd M.pc pr ⟨(x:Int),0,false⟩}
theorem buildPc (x:Int) (w:World):(Instr.build 109 #[(0,vI6 x)]).run Tryz.prog w= .ok (.agg #[vI6 x,vU6 0,.bool false]) w:=run_build w 109 _ _ (by rfl)
theorem aged_in (M:Mc) (t:Tr) (h:t.ok):0≤agedOf M t∧agedOf M t<256:=by
 have hl:=h.lv
 unfold agedOf Ag.levN
 by_cases e:(M.ag:Int)=0
 ·omega
 ·rw[if_neg e]
  have hs:0≤subN M.nw t.sn:=by unfold subN;omega
  have hd:0≤subN M.nw t.sn/(M.ag:Int):=Int.ediv_nonneg hs (by omega)
  omega
theorem SX.takeOne_takes (h : SX w W0 W lab a P n q T M sb pr l O0) (hl : l.length ≤ 10000) (hp : pr < P) (d : Int) (hd : 0 ≤ d ∧ d < 18446744073709551616) (hr : (M.pc pr).r = -1) (hok : (bb P (gh M.pl) (pr : Int) d).isSome = true) (x : Nat) (hx : x < n) (hbi : bI (gh M.pl) (bb P (gh M.pl) (pr : Int) d) = (x : Int)) :
  vCa 76 #[vPt sb, vU6 d] W fun e w' => e = .panicked pOver ∧ SX w W0 w' lab a P n q (T + 1) (dispM P n M pr x d) sb pr (l ++ [⟨3, (pr : Int), (M.th x).p, (M.th x).g, bA (bb P (gh M.pl) (pr : Int) d), 0⟩]) O0 := by
 obtain ⟨t, ht⟩ : ∃ t, M.th x = t := ⟨_, rfl⟩
 have hx' : (x : Int) < (n : Int) := by omega
 have tok : t.ok := by rw [← ht]; exact h.tok hx
 have hag := aged_in M t tok
 obtain ⟨ag, hagn⟩ : ∃ ag : Nat, agedOf M t = (ag : Int) := ⟨(agedOf M t).toNat, by omega⟩
 rw [ht]
 have HMV : Hid (∀ V, SX w W0 V lab a P n q (T + 1) (tkM P M pr d) sb pr l O0 → vCa 94 #[vPt a.tb, .agg #[vI6 t.p, vU3 (t.g : Int)], vI6 2] V fun e w' => (∃ c : Int, e = .returned (vI6 c)) ∧ SX w W0 w' lab a P n q (T + 1) (dispA P n M pr x d) sb pr l O0) := fun V h => by
  unfold dispA
  rw [ht]
  exact h.lift (R := fun e => ∃ c : Int, e = .returned (vI6 c)) fun _ i => i.goes.move t.p t.g 2
 have HAG : Hid (∀ V, SX w W0 V lab a P n q (T + 1) (dispA P n M pr x d) sb pr l O0 → vCa 124 #[vPt a.m, .agg #[.int .i64 t.p, .int .u32 (t.g : Int), .int .i64 t.pg, .int .u8 (t.lv : Int), .int .u8 (t.lf : Int), .int .i64 t.sv, .int .i64 t.pc, .int .i64 t.ia, .int .i64 t.il, .int .u64 (t.sn : Int)]] V fun e w' => e = .returned (vU8 (ag : Int)) ∧ SX w W0 w' lab a P n q (T + 1) (dispA P n M pr x d) sb pr l O0) := fun V h => by
  rw [← hagn]
  exact h.liftB (R := fun e => e = _) fun _ i => i.aged t tok
 have HDB : Hid (∀ V, SX w W0 V lab a P n q (T + 1) (dispA P n M pr x d) sb pr l O0 → SX w W0 ((V.setCell (vAt a.th (x * 10 + 6)) (vI6 (pr : Int))).setCell (vAt a.th (x * 10 + 4)) (vU8 (ag : Int))) lab a P n q (T + 1) (dispB P n M pr x d) sb pr l O0) := fun V h => by
  have e : (agedOf M (M.th x)).toNat = ag := by grind
  unfold dispB
  rw [e]
  exact h.goes fun _ i => i.setDisp hx (pr : Int) ag (by omega)
 have HDM : Hid (∀ V, SX w W0 V lab a P n q (T + 1) (dispB P n M pr x d) sb pr l O0 → SX w W0 (((V.setCell (vAt a.pr (pr * 3)) (vI6 (x : Int))).setCell (vAt a.pr (pr * 3 + 1)) (vU6 0)).setCell (vAt a.pr (pr * 3 + 2)) (.bool false)) lab a P n q (T + 1) (dispM P n M pr x d) sb pr l O0) := fun V h => h.goes fun _ i => i.setProc hp (x : Int) 0 (by decide) false
 have HEN := veil fun ba V (h : SX w W0 V lab a P n q (T + 1) (dispM P n M pr x d) sb pr l O0) => h.end_ hl 3 t.p t.g ba
 have HFA : Hid (∀ V M', M'.th x = t → SX w W0 V lab a P n q (T + 1) M' sb pr l O0 → (V.cell? (vA0 sb) = some (vPt a.m) ∧ V.cell? (vAt a.m 5) = some (vPt a.tb) ∧ V.cell? (vAt a.th (x * 10)) = some (vI6 t.p) ∧ V.cell? (vAt a.th (x * 10 + 1)) = some (vU3 (t.g : Int))) ∧ V.cell? (vAt a.m 4) = some (.slice (some (vA0 a.th)) n a.xt) ∧ V.cell? (vAt sb 1) = some (vI6 (pr : Int)) ∧ TrAt V a.th (x * 10) t ∧ ∀ o, V.frozen? (vAt a.th o) = false) := fun V M' e h => ⟨⟨h.c0, h.core.c5, by rw [← e]; exact (h.tr hx).c0, by rw [← e]; exact (h.tr hx).c1⟩, h.core.c4, h.c1, by rw [← e]; exact h.tr hx, h.tfz⟩
 have HFB : Hid (∀ V, SX w W0 V lab a P n q (T + 1) (dispB P n M pr x d) sb pr l O0 → V.cell? (vAt sb 2) = some (.pointer (some (vAt a.pr (pr * 3)))) ∧ PcAt V a.pr (pr * 3) (M.pc pr) ∧ ∀ o, V.frozen? (vAt a.pr o) = false) := fun V h => ⟨h.c2, h.pc hp, h.pfz⟩
 have HFC : Hid (∀ V, SX w W0 V lab a P n q (T + 1) (dispM P n M pr x d) sb pr l O0 → V.cell? (vAt a.th (x * 10)) = some (vI6 t.p) ∧ V.cell? (vAt a.th (x * 10 + 1)) = some (vU3 (t.g : Int))) := fun V h => by
  have e : (dispM P n M pr x d).th x = { t with pc := (pr : Int), lf := (agedOf M t).toNat } := by unfold dispM dispB; grind[upd]
  have := h.tr hx
  rw [e] at this
  exact ⟨this.c0, this.c1⟩
 have hth : ¬ a.th = sb := fun e => by
  obtain ⟨k, v, s⟩ := h.sp
  have h1 := s.ls
  rw [← e, s.at_.i.lth] at h1
  cases h1
 have hta : (tkM P M pr d).th x = t := ht
 have htb : (dispA P n M pr x d).th x = t := ht
 have HF1 := veil (fun V h => HFA.out V _ hta h)
 have HF2 := veil (fun V h => HFA.out V _ htb h)
 have hbt := fun w => buildPc (x : Int) w
 clear HFA hta htb ht tok hag hagn
 obtain ⟨O, hs, hwrap⟩ := h.base
 have HTK : Hid (∀ V, vBw W V → vCa 122 #[vPt a.pb, vI6 (pr : Int), vU6 d] V fun e w' => e = vRt #[vI6 (bI (gh M.pl) (bb P (gh M.pl) (pr : Int) d)), .agg (vKy (bK (gh M.pl) (bb P (gh M.pl) (pr : Int) d))), vI6 (bA (bb P (gh M.pl) (pr : Int) d)), .bool (bb P (gh M.pl) (pr : Int) d).isSome] ∧ ∃ O1, SG w w' lab a P n q (T + 1) (tkM P M pr d) sb pr l O1 ∧ (W.heap.size < V.heap.size → ¬ O1 W.heap.size) ∧ Fr O W w' ∧ (∀ k, k < W.heap.size → O1 k → O k) ∧ (KeyN V W.heap.size → KeyN w' W.heap.size)) := fun V hb => by
  have hV := hs.below hb
  have hn : ¬ O W.heap.size := fun q => by have := hs.lt q; omega
  obtain ⟨lk, v, s, ho⟩ := id hV
  refine (s.at_.i.take (pr : Int) d hd).mono ?_
  rintro e w' ⟨rfl, hg⟩
  obtain ⟨lab', A, hl, hf⟩ := s.at_.step hg
  have hl0 := Classical.byContradiction fun q => hn ((ho _).2 (.inl q))
  have hle := fun k (hk : k < V.heap.size) (q : (lab' k ≠ 0 ∨ k = sb ∨ v.ownBlock = some k)) => (ho k).2 (by
   grind)
  refine ⟨rfl, _, ⟨lab', v, s.keep A hl (fun b hb hl => hf.box hl hb), fun _ => Iff.rfl⟩, ?_, (ofBelow hb).then hf (fun k hk q => (ho k).2 (.inl q)), fun k hk q => hle k (Nat.lt_of_lt_of_le hk hb.size) q, fun kn => ?_⟩
  ·grind
  ·have e := hf.box hl0 (World.block_lt_of_cell? V _ kn.c0)
   exact ⟨(World.cell?_of_block e).trans kn.c0, (World.cell?_of_block e).trans kn.c1, (World.cell?_of_block e).trans kn.c2, (World.frozen?_of_block e).trans kn.f0, (World.frozen?_of_block e).trans kn.f1, (World.frozen?_of_block e).trans kn.f2⟩
 have HC : Hid (∀ V M' T', ∀ O1, SG w V lab a P n q T' M' sb pr l O1 → V.cell? (vA0 sb) = some (vPt a.m) ∧ V.cell? (vAt sb 1) = some (vI6 (pr : Int)) ∧ V.cell? (vAt a.m 8) = some (vPt a.pb)) := fun V M' T' O1 h => ⟨h.sx.c0, h.sx.c1, h.sx.core.c8⟩
 have hwl := hs.wl
 have HWR := veil hwrap
 have HS := veil hs
 have H0 := veil (Below.refl W.heap.size W)
 have HKN := veil (KeyN.new W)
 obtain ⟨c0, c1, c8⟩ := HC.out _ _ _ _ hs
 have c2 := h.c2
 have r0 := (h.pc hp).c0
 have n1 : ¬ sb = W.heap.size := by have : sb < W.heap.size := World.block_lt_of_cell? W _ c0; omega
 have n2 : ¬ W.heap.size = sb := fun e => n1 e.symm
 have n3 : ¬ a.m = W.heap.size := by have : a.m < W.heap.size := World.block_lt_of_cell? W _ c8; omega
 have n4 : ¬ W.heap.size = a.m := fun e => n3 e.symm
 rw [hr] at r0
 clear h hs hwrap hr
 generalize bI (gh M.pl) (bb P (gh M.pl) (pr : Int) d) = bi at *
 generalize bK (gh M.pl) (bb P (gh M.pl) (pr : Int) d) = bk at *
 generalize bA (bb P (gh M.pl) (pr : Int) d) = ba at *
 generalize (bb P (gh M.pl) (pr : Int) d).isSome = ok at *
 have HAL := veil fun w1 O1 T' M' (o : Obj) (h1 : SG w w1 lab a P n q T' M' sb pr l O1) (h2 : Fr O W w1) (h3 : (∀ k, k < W.heap.size → O1 k → O k)) => HWR.out _ _ _ _ ⟨O1, h1.below bzA, h2.then (ofBelow (S := fun _ => False) ((Below.refl w1.heap.size w1).alloc lzr o)) (fun _ _ q => q.elim), h3⟩
 have HAS := veil fun w1 O1 T' M' u0 u1 u2 (h1 : SG w w1 lab a P n q T' M' sb pr l O1) (hn : ¬ O1 W.heap.size) (h2 : Fr O W w1) (h3 : (∀ k, k < W.heap.size → O1 k → O k)) => HWR.out _ _ _ _ ⟨O1, ((h1.setBox hn hwl 0 u0).setBox hn hwl 1 u1).setBox hn hwl 2 u2, h2.then ((((Fr.refl (fun k => k = W.heap.size) w1).setCell (a := (vA0 W.heap.size)) rfl u0).setCell (a := (vAt W.heap.size 1)) rfl u1).setCell (a := (vAt W.heap.size 2)) rfl u2) (fun k hk q => by omega), h3⟩
 refine ge ?_
 go_wp2
 go_region_held3 (fun w' => w'.cell? (vA0 sb) = some (vPt a.m) ∧ w'.cell? (vAt sb 1) = some (vI6 (pr : Int)) ∧ w'.cell? (vAt a.m 8) = some (vPt a.pb))
  (first | exact HC.out _ _ _ _ HG1.out | exact HC.out _ _ _ _ (HG1.out.below bzA) | go_keep)
  (first
   | (go_at_call 122; refine (HTK.out _ (by exact below_post H0.out rfl rfl rfl rfl)).mono ?_; rintro e w1 ⟨rfl, O1, hg, _, hf1, ho1, _⟩; have HG1 := veil hg; have HF1 := veil hf1; have HO1 := veil ho1; clear hg hf1 ho1)
   | (go_at_call 122; refine (HTK.out _ (by exact below_post ((Below.refl W.heap.size W).alloc lzr _) rfl rfl rfl rfl)).mono ?_; rintro e w1 ⟨rfl, O1, hg, hno1, hf1, ho1, hkn⟩; have HG1 := veil hg; have HN1 := veil hno1; have HF1 := veil hf1; have HO1 := veil ho1; obtain ⟨r0', r1, r2, f0, f1, f2⟩ := hkn (HKN.out.kept (by exact bp bzR rfl rfl rfl rfl)); clear hg hno1 hf1 ho1 hkn))
 all_goals (rename_i hHeld; clear hHeld)
 all_goals first
  | (have HX := veil (HAS.out w1 O1 _ _ (.bool bk.e) (vU6 bk.d) (vU8 bk.l) HG1.out (HN1.out (by simp)) HF1.out HO1.out); clear r0' r1 r2 f0 f1 f2; generalize ((w1.setCell (vA0 W.heap.size) (.bool bk.e)).setCell (vAt W.heap.size 1) (vU6 bk.d)).setCell (vAt W.heap.size 2) (vU8 bk.l) = Wc at *)
  | (have HX := veil (HAL.out w1 O1 _ _ (.cells (vKy bk) 120) HG1.out HF1.out HO1.out); generalize w1.alloc (.cells (vKy bk) 120) = Wc at *)
 all_goals clear c0 c1 c8 n1 n2 n3 n4 c2 r0 HG1 HF1 HO1 HAL HAS HTK HC HKN H0 HS HWR
 all_goals subst hok
 all_goals subst hbi
 all_goals obtain ⟨⟨a0, a5, ap, ag0⟩, a4, a1, _, _⟩ := HF1.out _ HX.out
 all_goals go_upto_region 5 with fail
 all_goals go_region_held3 (fun w' => w'.cell? (vA0 sb) = some (vPt a.m) ∧ w'.cell? (vAt a.m 5) = some (vPt a.tb) ∧ w'.cell? (vAt a.th (x * 10)) = some (vI6 t.p) ∧ w'.cell? (vAt a.th (x * 10 + 1)) = some (vU3 (t.g : Int)))
  (first | exact (HF2.out _ HG2.out).1 | go_keep)
  (first
   | (go_at_call 94; refine (HMV.out _ (by exact SX.like HX.out rfl rfl rfl rfl)).mono ?_; rintro e w2 ⟨⟨c, rfl⟩, hg⟩; have HG2 := veil hg; clear hg))
 all_goals clear a0 a5 ap ag0 a4 a1 HX HF1 HMV
 all_goals (rename_i hHeld; clear hHeld)
 all_goals obtain ⟨⟨b0, b5, bp', bg⟩, b4, b1, ⟨d0, d1, d2, d3, d4, d5, d6, d7, d8, d9⟩, fz⟩ := HF2.out _ HG2.out
 all_goals go_upto_region 6 with fail
 all_goals
  refine wp_region_held_drew (S := (fun w' => w'.cell? (vAt sb 1) = some (vI6 (pr : Int)) ∧ w'.cell? (vA0 sb) = some (vPt a.m))) (by rfl) ?_ (fun hHeld => ?_)
  ·simp_all
  refine st ?_
  repeat' first
   | refine dn ?_
   | refine tk ?_
   | refine rd ?_
   | exact opZ
   | refine opN ?_
   | refine opS ?_ ?_
   | (refine opY 13 (fun K hK => ?_)
      go_simp
      go_at_call 124
      refine (HAG.out _ (by exact SX.like HG2.out rfl rfl rfl rfl)).mono ?_
      rintro e w3 ⟨rfl, hg⟩
      have HG3 := veil hg
      obtain ⟨⟨e0, e5, ep, eg⟩, e4, e1, ⟨f0, f1, f2, f3, f4, f5, f6, f7, f8, f9⟩, fz3⟩ := HF2.out _ hg
      clear hg
      refine hK.out _ _ ?_ (fun hHeld => ?_)
      ·grind
      clear hK K
      try simp only [puX])
   | (refine opY _ (fun K hK => ?_)
      go_simp
      refine hK.out _ _ ?_ (fun hHeld => ?_)
      ·omega
      clear hK K
      try simp only [puX])
   | (refine opY _ (fun K hK => ?_)
      go_simp
      refine hK.out _ _ ?_ (fun hHeld => ?_)
      ·exact ⟨(Gt.set_other _ _ _ _ _ _ (fun q => hth q.1)).trans e1, (Gt.set_other _ _ _ _ _ _ (fun q => hth q.1)).trans e0⟩
      clear hK K
      try simp only [puX])
   | (refine opY _ (fun K hK => ?_)
      go_simp
      refine hK.out _ _ ?_ (fun hHeld => ?_)
      ·exact ⟨(Gt.set_other _ _ _ _ _ _ (fun q => hth q.1)).trans ((Gt.set_other _ _ _ _ _ _ (fun q => hth q.1)).trans e1), (Gt.set_other _ _ _ _ _ _ (fun q => hth q.1)).trans ((Gt.set_other _ _ _ _ _ _ (fun q => hth q.1)).trans e0)⟩
      clear hK K
      try simp only [puX])
  refine ⟨?_⟩
  have HG4 := veil (HDB.out _ HG3.out)
  clear d0 d1 d2 d3 d4 d5 d6 d7 d8 d9 fz b0 b5 bp' bg b4 b1 e0 e5 ep eg e4 e1 f0 f1 f2 f3 f4 f5 f6 f7 f8 f9 fz3 HG2 HG3 HF2 HAG HDB
  generalize (w3.setCell (vAt a.th (x * 10 + 6)) (vI6 (pr : Int))).setCell (vAt a.th (x * 10 + 4)) (vU8 (ag : Int)) = w4 at *
  obtain ⟨g2, ⟨g0, g1, gm⟩, gf⟩ := HFB.out _ HG4.out
  go_upto_region 8 with fail
  have HG5 := veil (HDM.out _ HG4.out)
  clear g0 g1 gm gf g2 HFB HG4 HDM
  generalize ((w4.setCell (vAt a.pr (pr * 3)) (vI6 (x : Int))).setCell (vAt a.pr (pr * 3 + 1)) (vU6 0)).setCell (vAt a.pr (pr * 3 + 2)) (.bool false) = w5 at *
  obtain ⟨i0, i1⟩ := HFC.out _ HG5.out
  go_wp2_with (first
   | (go_at_call 123; refine cH (HEN.out _ _ HG5.out) fun w6 HG => ?_))
  simp [bodyPost]
  exact HG.out
end
section
variable {w W W':World} {lab labk:Nat→Nat} {a:Ad} {P n q T T':Nat} {M M':Mc} {sb pr:Nat} {l:List Ev} {v:Value} {O O0:Nat→Prop} {W0:World}
theorem SG.ran_no (h : SG w W lab a P n q T M sb pr l O) (hl : l.length ≤ 10000) (x : Nat) (hx : x < n) (op ar er : Int) (her : er ≠ 0) :
  vCa 166 #[vPt sb, .pointer (some (vAt a.th (x * 10))), .agg #[vI6 op, vI6 ar], vI6 er] W fun e w' => e = .panicked pOver ∧ SX w W w' lab a P n q T M sb pr (l ++ [⟨6, (pr : Int), (M.th x).p, (M.th x).g, op, er⟩]) O := by
 obtain ⟨labk, v, hs, hO⟩ := h
 obtain ⟨t, ht⟩ : ∃ t, M.th x = t := ⟨_, rfl⟩
 rw [ht]
 have hb0 : vBw W (W.alloc (.cells #[vI6 op, vI6 ar] 83)) := bzA
 have s0 := hs.below hb0
 have k0 := newc W #[vI6 op, vI6 ar] 83 0 _ rfl
 have t0 : (W.alloc (.cells #[vI6 op, vI6 ar] 83)).cell? (vAt a.th (x * 10)) = some (vI6 t.p) := by rw [← ht]; exact (s0.at_.i.th.at_ x hx).c0
 have t1 : (W.alloc (.cells #[vI6 op, vI6 ar] 83)).cell? (vAt a.th (x * 10 + 1)) = some (vU3 (t.g : Int)) := by rw [← ht]; exact (s0.at_.i.th.at_ x hx).c1
 have hsib : ¬ sb = W.heap.size := by have := hs.lt; omega
 have hsib' : ¬ W.heap.size = sb := fun e => hsib e.symm
 have hst : ¬ sb = a.th := fun e => by have h1 := hs.ls; rw [e, hs.at_.i.lth] at h1; cases h1
 have hst' : ¬ a.th = sb := fun e => hst e.symm
 have c3 := hs.c3
 have hv := hs.hv
 have hk := hs.hk
 have HB0 := veil hb0
 have hki : ∀ k, v.ownBlock = some k → k ≠ W.heap.size := fun k e => by have := (hv.lt e).1; omega
 have hkt : ∀ k, v.ownBlock = some k → k ≠ a.th := fun k e q => by have h1 := (hk k e).1; rw [q, hs.at_.i.lth] at h1; cases h1
 replace c3 := kc hb0 c3
 replace hv := hv.below hb0
 clear hs hb0 ht
 generalize hW : W.alloc (.cells #[vI6 op, vI6 ar] 83) = W0 at *
 have HW := veil hW
 clear hW
 have p1 := s0.c1
 obtain ⟨ad, cap, rfl⟩ := Cb.owns_slice hv
 obtain ⟨ev, hev⟩ : ∃ ev : Ev, (⟨6, (pr : Int), t.p, t.g, op, er⟩ : Ev) = ev := ⟨_, rfl⟩
 have hb1 : vBw W0 (W0.alloc (.cells #[vI6 6, vI6 (pr : Int), vI6 t.p, vU3 (t.g : Int), vI6 op, vI6 er] 80)).drew := ((Below.refl _ W0).alloc lzr _).drew
 have s1 := s0.below hb1
 have q31 := kc hb1 c3
 have q1 := kc hb1 p1
 have m0 := kc hb1 k0
 have u0 := kc hb1 t0
 have u1 := kc hb1 t1
 have HOW : Hid ((W0.alloc (.cells #[vI6 6, vI6 (pr : Int), vI6 t.p, vU3 (t.g : Int), vI6 op, vI6 er] 80)).drew.ownsRow w.heap.size 80 6 (.slice ad l.length cap) l.length (evCells l)) := s1.hv
 have HNW : Hid (∀ j u, (evOne ev)[j]? = some u → (W0.alloc (.cells #[vI6 6, vI6 (pr : Int), vI6 t.p, vU3 (t.g : Int), vI6 op, vI6 er] 80)).drew.cell? (((vA0 W0.heap.size) : Addr).add j) = some u) := by
  rw [← hev]
  exact Cb.news_of (w1 := W0) (c := evOne ⟨6, (pr : Int), t.p, t.g, op, er⟩) rfl
 have HBS := veil s1.at_.f.size
 generalize hW1 : (W0.alloc (.cells #[vI6 6, vI6 (pr : Int), vI6 t.p, vU3 (t.g : Int), vI6 op, vI6 er] 80)).drew = W1 at *
 have HEND : Hid (∀ v1 w2, w2.ownsRow w.heap.size 80 6 v1 (l.length + 1) (evCells l ++ evOne ev) → W1.grownBy w2 (Value.slice ad l.length cap).ownBlock → (v1.ownBlock = (Value.slice ad l.length cap).ownBlock ∨ v1.ownBlock = some W1.heap.size) → (SX w W (w2.setCell (vAt sb 3) v1) lab a P n q T M sb pr (l ++ [ev]) O ∧ w2.cell? (vAt sb 3) = some (.slice ad l.length cap) ∧ w2.frozen? (vAt sb 3) = false) ∧ (w2.cell? (vAt sb 1) = some (vI6 (pr : Int)) ∧ w2.cell? (vA0 W.heap.size) = some (vI6 op) ∧ w2.cell? (vAt a.th (x * 10)) = some (vI6 t.p) ∧ w2.cell? (vAt a.th (x * 10 + 1)) = some (vU3 (t.g : Int)))) := fun v1 w2 ho hg hat => by
  refine ⟨⟨((s1.told ho hg hat).1 O hO).ahead (bt HB0.out hb1), (s1.told ho hg hat).2⟩, ?_⟩
  have hbl := fun b (hb : b < W1.heap.size) (hn : (Value.slice ad l.length cap).ownBlock ≠ some b) => hg.block b hb (fun e => hn e.symm)
  have e1 := hbl sb s1.lt (fun e => (hk sb e).2 rfl)
  have e2 := hbl W.heap.size (World.block_lt_of_cell? W1 _ m0) (fun e => hki W.heap.size e rfl)
  have e3 := hbl a.th (World.block_lt_of_cell? W1 _ u0) (fun e => hkt a.th e rfl)
  exact ⟨(World.cell?_of_block e1).trans q1, (World.cell?_of_block e2).trans m0, (World.cell?_of_block e3).trans u0, (World.cell?_of_block e3).trans u1⟩
 have HW1 := veil hW1
 have HEV := veil hev
 clear hW1 hev
 obtain ⟨i0, hi0, hz0, hz1, hz2⟩ := Cb.info_parts infoEv
 have herb : (er != 0) = true := by grind
 clear hv hk hki hkt s0 s1 hb1 hO HB0
 unfold pOver
 refine ge ?_
 go_upto_region 2 with fail
 rw [HW.out]
 refine wp_region_held_drew (S := (fun w' => w'.cell? (vAt sb 1) = some (vI6 (pr : Int)) ∧ w'.cell? (vA0 W.heap.size) = some (vI6 op) ∧ w'.cell? (vAt a.th (x * 10)) = some (vI6 t.p) ∧ w'.cell? (vAt a.th (x * 10 + 1)) = some (vU3 (t.g : Int)))) (by rfl) ?_ (fun hHeld => ?_)
 ·simp_all
 refine st ?_
 repeat' first
  | refine dn ?_
  | refine tk ?_
  | refine rd ?_
  | exact opZ
  | refine opN ?_
  | refine opS ?_ ?_
  | (refine opY 17 (fun K hK => ?_)
     go_simp
     rw [HW1.out]
     refine hK.out _ _ ?_ (fun hHeld => ?_)
     ·grind
     clear hK K
     try simp only [puX])
  | (refine opY 18 (fun K hK => ?_)
     refine step_append_ev _ (by rfl) _ _ _ (by rfl) w.heap.size 80 i0 (.agg #[vI6 0, vI6 0, vI6 0, vU3 0, vI6 0, vI6 0]) 6 48 Tryz.underlying38 hi0 hz0 hz1 hz2 rfl (by omega) (.slice ad l.length cap) l.length (evCells l) (by rfl) HOW.out (vA0 W0.heap.size) 1 1 (evOne ev) (by rfl) rfl HNW.out (evOne_one _) (by unfold maxLen; omega) (by omega) HBS.out ?_
     intro v1 w2 ho1 hg1 hat1
     obtain ⟨⟨hsg, y1, y2⟩, hS2⟩ := HEND.out _ _ ho1 hg1 hat1
     obtain ⟨a1, d1, rfl⟩ := Cb.owns_slice ho1
     have HX := veil hsg
     clear hsg ho1 hg1 hat1
     refine hK.out _ _ ?_ (fun hHeld => ?_)
     ·exact hS2
     clear hK K
     try simp only [puX])
  | (refine opY _ (fun K hK => ?_)
     go_simp
     refine hK.out _ _ ?_ (fun hHeld => ?_)
     ·omega
     clear hK K
     try simp only [puX])
  | (refine opY _ (fun K hK => ?_)
     go_simp
     refine hK.out _ _ ?_ (fun hHeld => ?_)
     ·exact ⟨(cfar w2 (by decide)).trans hS2.1, (Gt.set_other _ _ _ _ _ _ (fun q => hsib q.1)).trans hS2.2.1, (Gt.set_other _ _ _ _ _ _ (fun q => hst q.1)).trans hS2.2.2.1, (Gt.set_other _ _ _ _ _ _ (fun q => hst q.1)).trans hS2.2.2.2⟩
     clear hK K
     try simp only [puX])
 all_goals
  refine ⟨?_⟩
  go_wp2
  simp [bodyPost]
  rw [HEV.out]
  exact HX.out
theorem SX.ran_ok (h:SX w W0 W lab a P n q T M sb pr l O0) (hl:l.length≤10000) (x:Nat) (hx:x<n) (op ar:Int):
  vCa 166 #[vPt sb,.pointer (some (vAt a.th (x*10))),.agg #[vI6 op,vI6 ar],vI6 0] W fun e w'=>e=vRt #[]∧SX w W0 w' lab a P n q T M sb pr (l++[⟨5,(pr:Int),(M.th x).p,(M.th x).g,op,0⟩]) O0:=h.call (R:=fun e=>e=vRt #[]) fun _ s=>s.ran_ok hl x hx op ar
theorem SX.ran_no (h:SX w W0 W lab a P n q T M sb pr l O0) (hl:l.length≤10000) (x:Nat) (hx:x<n) (op ar er:Int) (her:er≠0):
  vCa 166 #[vPt sb,.pointer (some (vAt a.th (x*10))),.agg #[vI6 op,vI6 ar],vI6 er] W fun e w'=>e= .panicked pOver∧SX w W0 w' lab a P n q T M sb pr (l++[⟨6,(pr:Int),(M.th x).p,(M.th x).g,op,er⟩]) O0:=h.call (R:=fun e=>e= .panicked pOver) fun _ s=>s.ran_no hl x hx op ar er her
end
section
variable {w W W':World} {lab labk:Nat→Nat} {a:Ad} {P n q T T':Nat} {M M':Mc} {sb pr:Nat} {l:List Ev} {v:Value} {O O0:Nat→Prop} {W0:World}
theorem SX.grant_none (h:SX w W0 W lab a P n q T M sb pr l O0) (lk:Int):
  vCa 167 #[vPt sb,vI6 (-1),vI6 lk] W fun e w'=>e=vRt #[]∧SX w W0 w' lab a P n q T M sb pr l O0:=by
 have HS:=veil h
 clear h
 refine ge ?_
 go_wp2
 simp[bodyPost,results,Tryz.results167,go_sem]
 exact HS.out
theorem SG.grant (h:SG w W lab a P n q T M sb pr l O) (hl:l.length≤10000) (hT:T+n≤1000000000) (x:Nat) (hx:x<n) (lk:Int):
  vCa 167 #[vPt sb,vI6 (x:Int),vI6 lk] W fun e w'=>e=vRt #[]∧SX w W w' lab a P n q (T+n+1) (ready P n q M x (M.th x).pc) sb pr (l++[⟨8,(pr:Int),(M.th x).p,(M.th x).g,lk,0⟩]) O:=by
 obtain⟨t,ht⟩: ∃t,M.th x=t:=⟨_,rfl⟩
 have hx':(x:Int)<(n:Int):=by omega
 have hxb:((x:Int)== -1)=false:=by simp
 rw[ht]
 have hb0:vBw W (W.alloc (.cells #[.int .i64 t.p,.int .u32 (t.g:Int),.int .i64 t.pg,.int .u8 (t.lv:Int),.int .u8 (t.lf:Int),.int .i64 t.sv,.int .i64 t.pc,.int .i64 t.ia,.int .i64 t.il,.int .u64 (t.sn:Int)] 130)):=bzA
 have h0:=(h.below hb0).sx
 have hno: ¬O W.heap.size:=fun q=>by have:=h.lt q;omega
 have hsx:=h.sx
 have c0:=hsx.c0
 have c4:=hsx.core.c4
 obtain⟨d0,d1,d2,d3,d4,d5,d6,d7,d8,d9⟩:TrAt W a.th (x*10) t:=by rw[←ht];exact hsx.tr hx
 have kt:=TrAt.new W t
 have HB0:=veil hb0
 clear hb0 hsx h
 generalize hW:W.alloc (.cells #[.int .i64 t.p,.int .u32 (t.g:Int),.int .i64 t.pg,.int .u8 (t.lv:Int),.int .u8 (t.lf:Int),.int .i64 t.sv,.int .i64 t.pc,.int .i64 t.ia,.int .i64 t.il,.int .u64 (t.sn:Int)] 130)=W0 at*
 have HW:=veil hW
 clear hW
 have HT:=veil<|h0.tell hl 8 t.p t.g lk
 have HR:=veil fun V (h:SX w W0 V lab a P n q T M sb pr (l++[⟨8,(pr:Int),t.p,t.g,lk,0⟩]) O)=>h.lift (R:=fun e=>e=vRt #[]) fun _ i=>i.goes.ready hT x hx t.pc
 have k6:=kt.c6
 have k0:=kt.c0
 have k1:=kt.c1
 have HC:Hid (∀V T' M' l',SX w W0 V lab a P n q T' M' sb pr l' O→V.cell? (vA0 sb)=some (vPt a.m)∧V.cell? (vAt W.heap.size 6)=some (vI6 t.pc)):=fun V T' M' l' h=>⟨h.c0,h.keep hno k6⟩
 clear h0 kt ht hno
 refine ge ?_
 go_upto_region 2 with fail
 rw[HW.out]
 go_upto_region 3 with (first
  |(go_at_call 120;refine cH HT.out fun w1 HG1=> ?_))
 obtain⟨y0,y6⟩:=HC.out _ _ _ _ HG1.out
 go_region_held3 (fun w'=>w'.cell? (vA0 sb)=some (vPt a.m)∧w'.cell? (vAt W.heap.size 6)=some (vI6 t.pc))
  (first|exact HC.out _ _ _ _ HG2.out|go_keep)
  (first
   |(go_at_call 50;refine cH (HR.out _ (by exact SX.like HG1.out rfl rfl rfl rfl)) fun w2 HG2=> ?_))
 go_wp2
 go_end0
 exact⟨rfl,HG2.out.ahead HB0.out⟩
theorem SX.grant (h:SX w W0 W lab a P n q T M sb pr l O0) (hl:l.length≤10000) (hT:T+n≤1000000000) (x:Nat) (hx:x<n) (lk:Int):
  vCa 167 #[vPt sb,vI6 (x:Int),vI6 lk] W fun e w'=>e=vRt #[]∧SX w W0 w' lab a P n q (T+n+1) (ready P n q M x (M.th x).pc) sb pr (l++[⟨8,(pr:Int),(M.th x).p,(M.th x).g,lk,0⟩]) O0:=h.call (R:=fun e=>e=vRt #[]) fun _ s=>s.grant hl hT x hx lk
end
section
variable {w W W':World} {lab labk:Nat→Nat} {a:Ad} {P n q T T':Nat} {M M':Mc} {sb pr:Nat} {l:List Ev} {v:Value} {O O0:Nat→Prop} {W0:World}
theorem IsMc.lock (h:IsMc W labk a P n q T M) (t m:Int):
  vCa 190 #[vPt a.gb,vI6 t,vI6 m] W fun e w'=>e=vRt #[.bool (Pi.lockR M.gr t m).1.1,vI6 (Pi.lockR M.gr t m).1.2]∧Goes W w' labk a P n q T {M with gr:=(Pi.lockR M.gr t m).2}:=by
 grind[IsMc.gr,Pi.PG.lock,Calls.mono,IsMc.stp]
theorem IsMc.unlock (h:IsMc W labk a P n q T M) (t m:Int):
  vCa 165 #[vPt a.gb,vI6 t,vI6 m] W fun e w'=>e=vRt #[vI6 (Pi.unlR M.gr t m).1.1,vI6 (Pi.unlR M.gr t m).1.2]∧Goes W w' labk a P n q T {M with gr:=(Pi.unlR M.gr t m).2}:=by
 grind[IsMc.gr,Pi.PG.unlock,Calls.mono,IsMc.stp]
noncomputable def lockM (M:Mc) (x:Nat) (m:Int):Mc:={M with gr:=(Pi.lockR M.gr (M.th x).p m).2}
theorem SG.lock_no (h:SG w W lab a P n q T M sb pr l O) (hl:l.length≤9000) (hp:pr<P) (x:Nat) (hx:x<n) (op ar:Int) (he:(Pi.lockR M.gr (M.th x).p ar).1.2≠0):
  vCa 164 #[vPt sb,.pointer (some (vAt a.th (x*10))),.agg #[vI6 op,vI6 ar]] W fun e w'=>e= .panicked pOver∧SX w W w' lab a P n q T (lockM M x ar) sb pr (l++[⟨6,(pr:Int),(M.th x).p,(M.th x).g,op,(Pi.lockR M.gr (M.th x).p ar).1.2⟩]) O:=by
 obtain⟨t,ht⟩: ∃t,M.th x=t:=⟨_,rfl⟩
 rw[ht]
 have hb0:vBw W (W.alloc (.cells #[vI6 op,vI6 ar] 83)):=bzA
 have h0:=(h.below hb0).sx
 have hno: ¬O W.heap.size:=fun q=>by have:=h.lt q;omega
 have k0:=newc W #[vI6 op,vI6 ar] 83 0 _ rfl
 have k1:=newc W #[vI6 op,vI6 ar] 83 1 _ rfl
 have HB0:=veil hb0
 clear hb0 h
 generalize hW:W.alloc (.cells #[vI6 op,vI6 ar] 83)=W0 at*
 have HW:=veil hW
 clear hW
 obtain⟨res,hres⟩: ∃res,Pi.lockR M.gr t.p ar=res:=⟨_,rfl⟩
 have HLK:Hid (∀V,SX w W0 V lab a P n q T M sb pr l O→vCa 190 #[vPt a.gb,vI6 t.p,vI6 ar] V fun e w'=>e=vRt #[.bool res.1.1,vI6 res.1.2]∧SX w W0 w' lab a P n q T (lockM M x ar) sb pr l O):=fun V h=>by
  unfold lockM
  rw[ht,←hres]
  exact h.lift (R:=fun e=>e=_) fun _ i=>i.lock t.p ar
 have htl:(lockM M x ar).th x=t:=ht
 have HC:Hid (∀V M' l',M'.th x=t→SX w W0 V lab a P n q T M' sb pr l' O→(V.cell? (vA0 sb)=some (vPt a.m)∧V.cell? (vAt a.m 7)=some (vPt a.gb)∧V.cell? (vAt a.th (x*10))=some (vI6 t.p)∧V.cell? (vAt W.heap.size 1)=some (vI6 ar))∧V.cell? (vAt a.th (x*10+1))=some (vU3 (t.g:Int))∧V.cell? (vA0 W.heap.size)=some (vI6 op)):=fun V M' l' e h=>⟨⟨h.c0,h.core.c7,by rw[←e];exact(h.tr hx).c0,h.keep hno k1⟩,by rw[←e];exact(h.tr hx).c1,h.keep hno k0⟩
 obtain⟨⟨c0,c7,d0,c1⟩,d1,_⟩:=HC.out _ _ _ ht h0
 have H0:=veil h0
 rw[ht] at he
 rw[hres] at he⊢
 have HRN:=veil fun V (h:SX w W0 V lab a P n q T (lockM M x ar) sb pr l O)=>by
  have:=h.ran_no (by omega) x hx op ar res.1.2 he
  rw[htl] at this
  exact this
 clear h0 ht hno
 refine ge ?_
 go_wp2
 rw[HW.out]
 go_region_held3 (fun w'=>w'.cell? (vA0 sb)=some (vPt a.m)∧w'.cell? (vAt a.m 7)=some (vPt a.gb)∧w'.cell? (vAt a.th (x*10))=some (vI6 t.p)∧w'.cell? (vAt W.heap.size 1)=some (vI6 ar))
  (first|exact(HC.out _ _ _ htl HG1.out).1|go_keep)
  (first
   |(go_at_call 190;refine cH (HLK.out _ (by exact SX.like H0.out rfl rfl rfl rfl)) fun w1 HG1=> ?_))
 (rename_i hHeld;clear hHeld)
 clear c0 c7 d0 c1 d1
 obtain⟨⟨c0,c7,d0,c1⟩,d1,e0⟩:=HC.out _ _ _ htl HG1.out
 generalize res.1.1=got at*
 go_wp2_with (first
  |(go_at_call 166;refine cH (HRN.out _ HG1.out) fun w2 HG2=> ?_))
 simp[bodyPost]
 exact HG2.out.ahead HB0.out
theorem SG.lock_got (h : SG w W lab a P n q T M sb pr l O) (hl : l.length ≤ 9000) (hp : pr < P) (x : Nat) (hx : x < n) (op ar : Int) (he : (Pi.lockR M.gr (M.th x).p ar).1 = (true, 0)) :
  vCa 164 #[vPt sb, .pointer (some (vAt a.th (x * 10))), .agg #[vI6 op, vI6 ar]] W fun e w' => e = .panicked pOver ∧ SX w W w' lab a P n q T (lockM M x ar) sb pr (l ++ [⟨5, (pr : Int), (M.th x).p, (M.th x).g, op, 0⟩] ++ [⟨8, (pr : Int), (M.th x).p, (M.th x).g, ar, 0⟩]) O := by
 obtain ⟨t, ht⟩ : ∃ t, M.th x = t := ⟨_, rfl⟩
 rw [ht]
 have hb0 : vBw W (W.alloc (.cells #[vI6 op, vI6 ar] 83)) := bzA
 have h0 := (h.below hb0).sx
 have hno : ¬ O W.heap.size := fun q => by have := h.lt q; omega
 have k0 := newc W #[vI6 op, vI6 ar] 83 0 _ rfl
 have k1 := newc W #[vI6 op, vI6 ar] 83 1 _ rfl
 have HB0 := veil hb0
 clear hb0 h
 generalize hW : W.alloc (.cells #[vI6 op, vI6 ar] 83) = W0 at *
 have HW := veil hW
 clear hW
 obtain ⟨res, hres⟩ : ∃ res, Pi.lockR M.gr t.p ar = res := ⟨_, rfl⟩
 have HLK : Hid (∀ V, SX w W0 V lab a P n q T M sb pr l O → vCa 190 #[vPt a.gb, vI6 t.p, vI6 ar] V fun e w' => e = vRt #[.bool res.1.1, vI6 res.1.2] ∧ SX w W0 w' lab a P n q T (lockM M x ar) sb pr l O) := fun V h => by
  unfold lockM
  rw [ht, ← hres]
  exact h.lift (R := fun e => e = _) fun _ i => i.lock t.p ar
 have htl : (lockM M x ar).th x = t := ht
 have HC : Hid (∀ V M' l', M'.th x = t → SX w W0 V lab a P n q T M' sb pr l' O → (V.cell? (vA0 sb) = some (vPt a.m) ∧ V.cell? (vAt a.m 7) = some (vPt a.gb) ∧ V.cell? (vAt a.th (x * 10)) = some (vI6 t.p) ∧ V.cell? (vAt W.heap.size 1) = some (vI6 ar)) ∧ V.cell? (vAt a.th (x * 10 + 1)) = some (vU3 (t.g : Int)) ∧ V.cell? (vA0 W.heap.size) = some (vI6 op)) := fun V M' l' e h => ⟨⟨h.c0, h.core.c7, by rw [← e]; exact (h.tr hx).c0, h.keep hno k1⟩, by rw [← e]; exact (h.tr hx).c1, h.keep hno k0⟩
 obtain ⟨⟨c0, c7, d0, c1⟩, d1, _⟩ := HC.out _ _ _ ht h0
 have H0 := veil h0
 rw [ht, hres] at he
 have HRN := veil fun V (h : SX w W0 V lab a P n q T (lockM M x ar) sb pr l O) => by
  have := h.ran_ok (by omega) x hx op ar
  rw [htl] at this
  exact this
 have HEN := veil fun V (h : SX w W0 V lab a P n q T (lockM M x ar) sb pr (l ++ [⟨5, (pr : Int), t.p, t.g, op, 0⟩]) O) => h.end_ (by grind) 8 t.p t.g ar
 have eg : res.1.1 = true := by rw [he]
 have ee : res.1.2 = 0 := by rw [he]
 rw [eg, ee] at HLK
 clear eg ee he
 clear h0 ht hno
 refine ge ?_
 go_wp2
 rw [HW.out]
 go_region_held3 (fun w' => w'.cell? (vA0 sb) = some (vPt a.m) ∧ w'.cell? (vAt a.m 7) = some (vPt a.gb) ∧ w'.cell? (vAt a.th (x * 10)) = some (vI6 t.p) ∧ w'.cell? (vAt W.heap.size 1) = some (vI6 ar))
  (first | exact (HC.out _ _ _ htl HG1.out).1 | go_keep)
  (first
   | (go_at_call 190; refine cH (HLK.out _ (by exact SX.like H0.out rfl rfl rfl rfl)) fun w1 HG1 => ?_))
 (rename_i hHeld; clear hHeld)
 clear c0 c7 d0 c1 d1
 obtain ⟨⟨c0, c7, d0, c1⟩, d1, e0⟩ := HC.out _ _ _ htl HG1.out
 go_upto_region 4 with (first
  | (go_at_call 166; refine cH (HRN.out _ HG1.out) fun w2 HG2 => ?_))
 clear c0 c7 d0 c1 d1 e0
 obtain ⟨⟨c0, c7, d0, c1⟩, d1, e0⟩ := HC.out _ _ _ htl HG2.out
 refine wp_region_held_drew (S := (fun w' => w'.cell? (vAt a.th (x * 10)) = some (vI6 t.p) ∧ w'.cell? (vAt a.th (x * 10 + 1)) = some (vU3 (t.g : Int)) ∧ w'.cell? (vAt W.heap.size 1) = some (vI6 ar))) (by rfl) ?_ (fun hHeld => ?_)
 ·simp_all
 refine st ?_
 repeat' first
  | refine dn ?_
  | refine tk ?_
  | refine rd ?_
  | exact opZ
  | refine opN ?_
  | refine opS ?_ ?_
  | (refine opY 7 (fun K hK => ?_)
     go_simp
     go_at_call 123
     refine (HEN.out _ (by exact SX.like HG2.out rfl rfl rfl rfl)).mono ?_
     rintro e w3 ⟨rfl, hg⟩
     exact ⟨rfl, rfl, hg.ahead HB0.out⟩)
theorem SG.lock_wait (h:SG w W lab a P n q T M sb pr l O) (hl:l.length≤9000) (hp:pr<P) (x:Nat) (hx:x<n) (op ar:Int) (he:(Pi.lockR M.gr (M.th x).p ar).1=(false,0)):
  vCa 164 #[vPt sb,.pointer (some (vAt a.th (x*10))),.agg #[vI6 op,vI6 ar]] W fun e w'=>e=vRt #[]∧SX w W w' lab a P n q T (setR {lockM M x ar with S:=moveS n M.G M.S (M.th x).p (M.th x).g 3} pr (-1)) sb pr (l++[⟨5,(pr:Int),(M.th x).p,(M.th x).g,op,0⟩]++[⟨7,(pr:Int),(M.th x).p,(M.th x).g,ar,0⟩]) O:=by
 obtain⟨t,ht⟩: ∃t,M.th x=t:=⟨_,rfl⟩
 rw[ht]
 have hb0:vBw W (W.alloc (.cells #[vI6 op,vI6 ar] 83)):=bzA
 have h0:=(h.below hb0).sx
 have hno: ¬O W.heap.size:=fun q=>by have:=h.lt q;omega
 have k0:=newc W #[vI6 op,vI6 ar] 83 0 _ rfl
 have k1:=newc W #[vI6 op,vI6 ar] 83 1 _ rfl
 have HB0:=veil hb0
 clear hb0 h
 generalize hW:W.alloc (.cells #[vI6 op,vI6 ar] 83)=W0 at*
 have HW:=veil hW
 clear hW
 obtain⟨res,hres⟩: ∃res,Pi.lockR M.gr t.p ar=res:=⟨_,rfl⟩
 have HLK:Hid (∀V,SX w W0 V lab a P n q T M sb pr l O→vCa 190 #[vPt a.gb,vI6 t.p,vI6 ar] V fun e w'=>e=vRt #[.bool res.1.1,vI6 res.1.2]∧SX w W0 w' lab a P n q T (lockM M x ar) sb pr l O):=fun V h=>by
  unfold lockM
  rw[ht,←hres]
  exact h.lift (R:=fun e=>e=_) fun _ i=>i.lock t.p ar
 have htl:(lockM M x ar).th x=t:=ht
 have HC:Hid (∀V M' l',M'.th x=t→SX w W0 V lab a P n q T M' sb pr l' O→(V.cell? (vA0 sb)=some (vPt a.m)∧V.cell? (vAt a.m 7)=some (vPt a.gb)∧V.cell? (vAt a.th (x*10))=some (vI6 t.p)∧V.cell? (vAt W.heap.size 1)=some (vI6 ar))∧V.cell? (vAt a.th (x*10+1))=some (vU3 (t.g:Int))∧V.cell? (vA0 W.heap.size)=some (vI6 op)):=fun V M' l' e h=>⟨⟨h.c0,h.core.c7,by rw[←e];exact(h.tr hx).c0,h.keep hno k1⟩,by rw[←e];exact(h.tr hx).c1,h.keep hno k0⟩
 obtain⟨⟨c0,c7,d0,c1⟩,d1,_⟩:=HC.out _ _ _ ht h0
 have H0:=veil h0
 rw[ht,hres] at he
 have HRN:=veil fun V (h:SX w W0 V lab a P n q T (lockM M x ar) sb pr l O)=>by
  have:=h.ran_ok (by omega) x hx op ar
  rw[htl] at this
  exact this
 have HTL:=veil fun V (h:SX w W0 V lab a P n q T (lockM M x ar) sb pr (l++[⟨5,(pr:Int),t.p,t.g,op,0⟩]) O)=>h.tell (by grind) 7 t.p t.g ar
 have HLV:Hid (∀V,SX w W0 V lab a P n q T (lockM M x ar) sb pr (l++[⟨5,(pr:Int),t.p,t.g,op,0⟩]++[⟨7,(pr:Int),t.p,t.g,ar,0⟩]) O→vCa 170 #[vPt sb,.pointer (some (vAt a.th (x*10))),vI6 3] V fun e w'=>(e=vRt #[]∧SX w W0 w' lab a P n q T (setR {lockM M x ar with S:=moveS n M.G M.S t.p t.g 3} pr (-1)) sb pr (l++[⟨5,(pr:Int),t.p,t.g,op,0⟩]++[⟨7,(pr:Int),t.p,t.g,ar,0⟩]) O)):=fun V h=>by
  have:=h.leave hp x hx 3
  rw[htl] at this
  exact this
 have eg:res.1.1=false:=by rw[he]
 have ee:res.1.2=0:=by rw[he]
 rw[eg,ee] at HLK
 clear eg ee he
 clear h0 ht hno
 refine ge ?_
 go_wp2
 rw[HW.out]
 go_region_held3 (fun w'=>w'.cell? (vA0 sb)=some (vPt a.m)∧w'.cell? (vAt a.m 7)=some (vPt a.gb)∧w'.cell? (vAt a.th (x*10))=some (vI6 t.p)∧w'.cell? (vAt W.heap.size 1)=some (vI6 ar))
  (first|exact(HC.out _ _ _ htl HG1.out).1|go_keep)
  (first
   |(go_at_call 190;refine cH (HLK.out _ (by exact SX.like H0.out rfl rfl rfl rfl)) fun w1 HG1=> ?_))
 (rename_i hHeld;clear hHeld)
 clear c0 c7 d0 c1 d1
 obtain⟨⟨c0,c7,d0,c1⟩,d1,e0⟩:=HC.out _ _ _ htl HG1.out
 go_upto_region 5 with (first
  |(go_at_call 166;refine cH (HRN.out _ HG1.out) fun w2 HG2=> ?_))
 clear c0 c7 d0 c1 d1 e0
 obtain⟨⟨c0,c7,d0,c1⟩,d1,e0⟩:=HC.out _ _ _ htl HG2.out
 have HS3:Hid (∀V l',SX w W0 V lab a P n q T (lockM M x ar) sb pr l' O→V.cell? (vAt a.th (x*10))=some (vI6 t.p)∧V.cell? (vAt a.th (x*10+1))=some (vU3 (t.g:Int))∧V.cell? (vAt W.heap.size 1)=some (vI6 ar)):=fun V l' h=>⟨(HC.out _ _ _ htl h).1.2.2.1,(HC.out _ _ _ htl h).2.1,(HC.out _ _ _ htl h).1.2.2.2⟩
 go_region_held3 (fun w'=>w'.cell? (vAt a.th (x*10))=some (vI6 t.p)∧w'.cell? (vAt a.th (x*10+1))=some (vU3 (t.g:Int))∧w'.cell? (vAt W.heap.size 1)=some (vI6 ar))
  (first|exact HS3.out _ _ HG3.out|go_keep)
  (first
   |(go_at_call 120;refine cH (HTL.out _ (by exact SX.like HG2.out rfl rfl rfl rfl)) fun w3 HG3=> ?_))
 go_wp2_with (first
  |(go_at_call 170;refine cH (HLV.out _ HG3.out) fun w4 HG4=> ?_))
 go_end0
 exact⟨rfl,by simpa using HG4.out.ahead HB0.out⟩
end
def six (w:World) (b:Nat) (e:Ev):World:=(((((w.setCell (vA0 b) (vI6 e.k)).setCell (vAt b 1) (vI6 e.p)).setCell (vAt b 2) (vI6 e.x)).setCell (vAt b 3) (vU3 (e.g:Int))).setCell (vAt b 4) (vI6 e.r)).setCell (vAt b 5) (vI6 e.e)
section
variable {w W W' V:World} {lab labk:Nat→Nat} {a:Ad} {P n q T T':Nat} {M M':Mc} {sb pr:Nat} {l:List Ev} {v:Value} {O O0:Nat→Prop} {W0:World}
theorem SX.six (h:SX w W0 V lab a P n q T M sb pr l O) (hbW:vBw W W0) {b:Nat} (hb:W.heap.size≤b) (hb2:b<W0.heap.size) (hn: ¬O b) (hw:w.heap.size≤b) (e:Ev):SX w W (Go.Proofs.YtnmhcgpnhlhcgaaGreatDoor.six V b e) lab a P n q T M sb pr l O:=by
 obtain⟨O1,hs,hf,ho⟩:=h
 have hn1: ¬O1 b:=fun q=>hn (ho b hb2 q)
 unfold Go.Proofs.YtnmhcgpnhlhcgaaGreatDoor.six
 refine⟨O1,(((((hs.setBox hn1 hw 0 _).setBox hn1 hw 1 _).setBox hn1 hw 2 _).setBox hn1 hw 3 _).setBox hn1 hw 4 _).setBox hn1 hw 5 _,?_,fun k hk q=>(by grind)⟩
 refine((ofBelow hbW).then hf (by simp)).then ((((((Fr.refl (fun k=>k=b) V).setCell (a:=(vA0 b)) rfl _).setCell (a:=(vAt b 1)) rfl _).setCell (a:=(vAt b 2)) rfl _).setCell (a:=(vAt b 3)) rfl _).setCell (a:=(vAt b 4)) rfl _|>.setCell (a:=(vAt b 5)) rfl _) (by omega)
theorem SG.spawn_no (h:SG w W lab a P n q T M sb pr l O) (x:Nat) (pg:Int) (hno:hasPg M pg=false):
  vCa 168 #[vPt sb,.pointer (some (vAt a.th (x*10))),vI6 pg] W fun e w'=>e=vRt #[.agg #[vI6 0,vI6 0,vI6 0,vU3 0,vI6 0,vI6 0],vI6 2]∧SX w W w' lab a P n q T M sb pr l O:=by
 have hb0:vBw W (W.alloc (.cells #[vI6 0,vI6 0,vI6 0,vU3 0,vI6 0,vI6 0] 80)):=bzA
 have h0:=(h.below hb0).sx
 have ke:=EvAt.new W
 have HB0:=veil hb0
 have HS:=veil h
 clear hb0 h
 generalize hW:W.alloc (.cells #[vI6 0,vI6 0,vI6 0,vU3 0,vI6 0,vI6 0] 80)=W0 at*
 have HW:=veil hW
 clear hW
 have c0:=h0.c0
 have HP:Hid (vS 53 #[vPt a.m,vI6 pg] W0 (.bool false)):=by
  obtain⟨lk,i⟩:=h0.i
  rw[←hno]
  exact i.hasProg pg
 obtain⟨e0,e1,e2,e3,e4,e5,ef⟩:=ke
 clear h0
 refine ge ?_
 go_upto_region 1 with fail
 rw[HW.out]
 go_wp2_with (first
  |(go_at_call 53;refine cS HP.out ?_))
 simp[bodyPost,results,Tryz.results168,go_sem,e0,e1,e2,e3,e4,e5]
 exact HS.out.sx.more (bset (bset (bset (bset (bset (bset HB0.out lzr _) lzr _) lzr _) lzr _) lzr _) lzr _)
theorem SG.spawn_of (h : SG w W lab a P n q T M sb pr l O) (x : Nat) (hx : x < n) (pg : Int) (hyes : hasPg M pg = true) (re : Ev) (rc : Int) (hbg : ∀ W0 V, SX w W0 V lab a P n q T M sb pr l O → vCa 55 #[vPt a.m, vI6 (pr : Int), .agg #[vI6 0, vU3 0, vI6 pg, vU8 ((M.th x).lv : Int), vU8 0, vI6 (-1), vI6 0, vI6 0, vI6 0, vU6 0]] V fun e w' => e = vRt #[.agg #[vI6 re.k, vI6 re.p, vI6 re.x, vU3 (re.g : Int), vI6 re.r, vI6 re.e], vI6 rc] ∧ SX w W0 w' lab a P n q T' M' sb pr l O) :
  vCa 168 #[vPt sb, .pointer (some (vAt a.th (x * 10))), vI6 pg] W fun e w' => e = vRt #[.agg #[vI6 re.k, vI6 re.p, vI6 re.x, vU3 (re.g : Int), vI6 re.r, vI6 re.e], vI6 rc] ∧ SX w W w' lab a P n q T' M' sb pr l O := by
 obtain ⟨lv, hlv⟩ : ∃ lv, (M.th x).lv = lv := ⟨_, rfl⟩
 rw [hlv] at hbg
 have hb0 : vBw W (W.alloc (.cells #[vI6 0, vI6 0, vI6 0, vU3 0, vI6 0, vI6 0] 80)) := bzA
 have h0 := (h.below hb0).sx
 have ke := EvAt.new W
 have HB0 := veil hb0
 have hno : ¬ O W.heap.size := fun q => by have := h.lt q; omega
 have hwl := h.wl
 have hlt2 : W.heap.size < (W.alloc (.cells #[vI6 0, vI6 0, vI6 0, vU3 0, vI6 0, vI6 0] 80)).heap.size := by simp
 have n1 : ¬ sb = W.heap.size := fun e => hno (by obtain ⟨k, v, s, ho⟩ := h; exact (ho _).2 (.inr (.inl e.symm)))
 have n2 : ¬ W.heap.size = sb := fun e => n1 e.symm
 have n3 : ¬ a.th = W.heap.size := fun e => hno (by obtain ⟨k, v, s, ho⟩ := h; exact (ho _).2 (.inl (by rw [← e, s.at_.i.lth]; decide)))
 have n4 : ¬ W.heap.size = a.th := fun e => n3 e.symm
 clear hb0 h
 generalize hW : W.alloc (.cells #[vI6 0, vI6 0, vI6 0, vU3 0, vI6 0, vI6 0] 80) = W0 at *
 have HW := veil hW
 clear hW
 have HP : Hid (vS 53 #[vPt a.m, vI6 pg] W0 (.bool true)) := by
  obtain ⟨lk, i⟩ := h0.i
  rw [← hyes]
  exact i.hasProg pg
 have c0 := h0.c0
 have c1 := h0.c1
 have d3 := (h0.tr hx).c3
 rw [hlv] at d3
 have HBG := veil fun V (h : SX w W0 V lab a P n q T M sb pr l O) => hbg W0 V h
 have HE := veil fun V T' M' (h : SX w W0 V lab a P n q T' M' sb pr l O) => by
  obtain ⟨O1, hs, hf, ho⟩ := h
  exact ke.kept (hf.block _ ke.lt hno)
 have HSX := veil fun V (h : SX w W0 V lab a P n q T' M' sb pr l O) => h.six HB0.out lzr hlt2 hno hwl re
 have HC : Hid (∀ V, SX w W0 V lab a P n q T' M' sb pr l O → V.cell? (vA0 sb) = some (vPt a.m) ∧ V.cell? (vAt sb 1) = some (vI6 (pr : Int))) := fun V h => ⟨h.c0, h.c1⟩
 have HKS : Hid (∀ V, SX w W0 V lab a P n q T' M' sb pr l O → ((((((V.setCell (vA0 W.heap.size) (vI6 re.k)).setCell (vAt W.heap.size 1) (vI6 re.p)).setCell (vAt W.heap.size 2) (vI6 re.x)).setCell (vAt W.heap.size 3) (vU3 (re.g : Int))).setCell (vAt W.heap.size 4) (vI6 re.r)).setCell (vAt W.heap.size 5) (vI6 re.e)).cell? (vA0 sb) = some (vPt a.m) ∧ ((((((V.setCell (vA0 W.heap.size) (vI6 re.k)).setCell (vAt W.heap.size 1) (vI6 re.p)).setCell (vAt W.heap.size 2) (vI6 re.x)).setCell (vAt W.heap.size 3) (vU3 (re.g : Int))).setCell (vAt W.heap.size 4) (vI6 re.r)).setCell (vAt W.heap.size 5) (vI6 re.e)).cell? (vAt sb 1) = some (vI6 (pr : Int))) := fun V h => by
  have e : ∀ o o' (U : World) (u : Value), (U.setCell (vAt W.heap.size o') u).cell? (vAt sb o) = U.cell? (vAt sb o) := fun o o' U u => Gt.set_other _ _ _ _ _ _ (fun q => n2 q.1)
  rw [e, e, e, e, e, e, e, e, e, e, e, e]
  exact HC.out V h
 have H0 := veil h0
 have hbt := fun w => buildTr pg (lv : Int) (-1) w
 clear h0 ke hno hbg hlv
 refine ge ?_
 go_upto_region 1 with fail
 rw [HW.out]
 go_upto_region 3 with (first
  | (go_at_call 53; refine cS HP.out ?_))
 refine wp_region_held_drew (S := (fun w' => w'.cell? (vA0 sb) = some (vPt a.m) ∧ w'.cell? (vAt sb 1) = some (vI6 (pr : Int)))) (by rfl) ?_ (fun hHeld => ?_)
 ·simp_all
 refine st ?_
 repeat' first
  | refine dn ?_
  | refine tk ?_
  | refine rd ?_
  | exact opZ
  | refine opN ?_
  | refine opS ?_ ?_
  | (refine opY 14 (fun K hK => ?_)
     go_simp
     go_at_call 55
     refine (HBG.out _ (by exact SX.like H0.out rfl rfl rfl rfl)).mono ?_
     rintro e w1 ⟨rfl, hg⟩
     have HG1 := veil hg
     obtain ⟨e0, e1, e2, e3, e4, e5, ef⟩ := HE.out _ _ _ hg
     clear hg
     refine hK.out _ _ ?_ (fun hHeld => ?_)
     ·exact HC.out _ HG1.out
     clear hK K
     try simp only [puX])
  | (refine opY _ (fun K hK => ?_)
     go_simp
     refine hK.out _ _ ?_ (fun hHeld => ?_)
     ·omega
     clear hK K
     try simp only [puX])
  | (refine opY _ (fun K hK => ?_)
     go_simp
     refine hK.out _ _ ?_ (fun hHeld => ?_)
     ·exact HKS.out _ HG1.out
     clear hK K
     try simp only [puX])
 refine ⟨?_⟩
 have HX := HSX.out _ HG1.out
 unfold Go.Proofs.YtnmhcgpnhlhcgaaGreatDoor.six at HX
 have HXX := veil HX
 clear HX
 go_wp2
 simp [bodyPost, results, Tryz.results168, go_sem, e0, e1, e2, e3, e4, e5]
 exact HXX.out
end
theorem act_catch (older:List PanicEntry) (w:World):
  CallsD Tryz.prog 74 #[] (.panicking ({v:= .iface 186 (.agg #[]),recovered:=false}::older)) w fun e u' w'=>
   e=vRt #[]∧u'= .panicking ({v:= .iface 186 (.agg #[]),recovered:=true}::older)∧w'=w:=by
 refine callsD_of_wpS Tryz.func74 rfl fun c₀ cs hu=> ?_
 apply wpS_seq
 apply wpS_region
 simp[wpOpsS,go_sem,recoverD,hu,Tryz.ntmps74,Exit.thenS]
 refine wpS_of_wp ?_
 have hta: ∀w,(Instr.typeAssert (.iface 186 (.agg #[])) 20 186 true).run Tryz.prog w= .ok (.tuple #[.agg #[],.bool true]) w:=fun w=>by rfl
 have heq: ∀w,(binOp BinOp.eql 20 (.iface 186 (.agg #[])) .nilIface).run Tryz.prog w= .ok (.bool false) w:=fun w=>by rfl
 have ht:(Array.replicate 9 undef).setIfInBounds 2 (Value.iface 186 (.agg #[]))= #[undef,undef,.iface 186 (.agg #[]),undef,undef,undef,undef,undef,undef]:=rfl
 rw[ht]
 clear ht
 go_wp2
 cases c₀
 simp_all [bodyPostS,results,Tryz.results74]
theorem act_idle (w:World):
  CallsD Tryz.prog 74 #[] .returning w fun e u' w'=>e=vRt #[]∧u'= .returning∧w'=w:=by
 refine callsD_of_wpS Tryz.func74 rfl fun c₀ cs hu=> ?_
 apply wpS_seq
 apply wpS_region
 simp[wpOpsS,go_sem,recoverD,hu,Tryz.ntmps74,Exit.thenS]
 refine wpS_of_wp ?_
 have hta: ∀w,(Instr.typeAssert .nilIface 20 186 true).run Tryz.prog w= .ok (.tuple #[.agg #[],.bool false]) w:=fun w=>by rfl
 have heq: ∀w,(binOp BinOp.eql 20 .nilIface .nilIface).run Tryz.prog w= .ok (.bool true) w:=fun w=>by rfl
 have ht:(Array.replicate 9 undef).setIfInBounds 2 Value.nilIface= #[undef,undef,.nilIface,undef,undef,undef,undef,undef,undef]:=rfl
 rw[ht]
 clear ht
 go_wp2
 cases c₀
 simp_all [bodyPostS,results,Tryz.results74]
section
variable {W:World} {sb:Nat} {d:Int} {P1 P2 P3:World→Prop}
theorem act_takes (hg:vCa 75 #[vPt sb,vU6 d] W fun e w'=>e=vRt #[]∧P1 w')
  (ht: ∀V,P1 V→vCa 76 #[vPt sb,vU6 d] V fun e w'=>e= .panicked pOver∧P2 w'):
  vCa 41 #[vPt sb,vU6 d] W fun e w'=>e=vRt #[]∧P2 w':=by
 have hmf: ∀(fn:Fn) (first cap:Array Value) (w:World),(Instr.makeFunc fn first cap).run Tryz.prog w= .ok (.func fn first cap) w:=fun _ _ _ _=>rfl
 have HG:=veil hg
 have HT:=veil ht
 clear hg ht
 go_enter_defers Tryz.func41,Tryz.ntmps41
 go_wp2_with (first
  |(go_at_call 75;refine cH HG.out fun w1 H1=> ?_)
  |(go_at_call 76;refine cH (HT.out _ H1.out) fun w2 H2=> ?_))
 refine leaves_cons (f:=74) (args:= #[]) (by simp) (by rfl) ?_
 refine(act_catch [] _).mono ?_
 rintro e u' w'' ⟨rfl,rfl,hw⟩
 simp[Go.Leaves,Go.settle,results,Tryz.results41,go_sem]
 rw[hw]
 exact H2.out
theorem act_goes (hg:vCa 75 #[vPt sb,vU6 d] W fun e w'=>e=vRt #[]∧P1 w')
  (ht: ∀V,P1 V→vCa 76 #[vPt sb,vU6 d] V fun e w'=>e=vRt #[]∧P2 w')
  (ho: ∀V,P2 V→vCa 77 #[vPt sb] V fun e w'=>e= .panicked pOver∧P3 w'):
  vCa 41 #[vPt sb,vU6 d] W fun e w'=>e=vRt #[]∧P3 w':=by
 have hmf: ∀(fn:Fn) (first cap:Array Value) (w:World),(Instr.makeFunc fn first cap).run Tryz.prog w= .ok (.func fn first cap) w:=fun _ _ _ _=>rfl
 have HG:=veil hg
 have HT:=veil ht
 have HO:=veil ho
 clear hg ht ho
 go_enter_defers Tryz.func41,Tryz.ntmps41
 go_wp2_with (first
  |(go_at_call 75;refine cH HG.out fun w1 H1=> ?_)
  |(go_at_call 76;refine cH (HT.out _ H1.out) fun w2 H2=> ?_)
  |(go_at_call 77;refine cH (HO.out _ H2.out) fun w3 H3=> ?_))
 refine leaves_cons (f:=74) (args:= #[]) (by simp) (by rfl) ?_
 refine(act_catch [] _).mono ?_
 rintro e u' w'' ⟨rfl,rfl,hw⟩
 simp[Go.Leaves,Go.settle,results,Tryz.results41,go_sem]
 rw[hw]
 exact H3.out
theorem act_all (hg:vCa 75 #[vPt sb,vU6 d] W fun e w'=>e=vRt #[]∧P1 w')
  (ht: ∀V,P1 V→vCa 76 #[vPt sb,vU6 d] V fun e w'=>e=vRt #[]∧P2 w')
  (ho: ∀V,P2 V→vCa 77 #[vPt sb] V fun e w'=>e=vRt #[]∧P3 w'):
  vCa 41 #[vPt sb,vU6 d] W fun e w'=>e=vRt #[]∧P3 w':=by
 have hmf: ∀(fn:Fn) (first cap:Array Value) (w:World),(Instr.makeFunc fn first cap).run Tryz.prog w= .ok (.func fn first cap) w:=fun _ _ _ _=>rfl
 have HG:=veil hg
 have HT:=veil ht
 have HO:=veil ho
 clear hg ht ho
 go_enter_defers Tryz.func41,Tryz.ntmps41
 go_wp2_with (first
  |(go_at_call 75;refine cH HG.out fun w1 H1=> ?_)
  |(go_at_call 76;refine cH (HT.out _ H1.out) fun w2 H2=> ?_)
  |(go_at_call 77;refine cH (HO.out _ H2.out) fun w3 H3=> ?_))
 refine leaves_cons (f:=74) (args:= #[]) (by simp) (by rfl) ?_
 refine(act_idle _).mono ?_
 rintro e u' w'' ⟨rfl,rfl,hw⟩
 simp[Go.Leaves,Go.settle,results,Tryz.results41,go_sem]
 rw[hw]
 exact H3.out
end
section
variable {w W W':World} {lab labk:Nat→Nat} {a:Ad} {P n q T T':Nat} {M M':Mc} {sb pr:Nat} {l:List Ev} {O O0:Nat→Prop} {W0:World}
theorem SG.start (h:IsMc w lab a P n q T M) (pr:Nat): ∃O,SG w (w.alloc (.cells #[vPt a.m,vI6 (pr:Int),.pointer (some (vAt a.pr (pr*3))),.slice none 0 0] 114)) lab a P n q T M w.heap.size pr [] O:=by
 have A:=h.at0.new (.cells #[vPt a.m,vI6 (pr:Int),.pointer (some (vAt a.pr (pr*3))),.slice none 0 0] 114)
 exact⟨_,lab,.slice none 0 0,⟨A,(by simp),(by simp),(by simp),(by simp),EvL.nil _ _,(fun k e=>by cases e),fun o=>(by simp),h.fresh lzr,lzr⟩,fun _=>Iff.rfl⟩
theorem buildSt (x y:Addr) (p:Int) (w:World):(Instr.build 114 #[(0,.pointer (some x)),(1,vI6 p),(2,.pointer (some y))]).run Tryz.prog w= .ok (.agg #[.pointer (some x),vI6 p,.pointer (some y),.slice none 0 0]) w:=run_build w 114 _ _ (by rfl)
theorem IsMc.step_no (h:IsMc w lab a P n q T M) (p d:Int) (hno:hasPc P p=false):
  vS 14 #[vPt a.m,vI6 p,vU6 d] w (.tuple #[.slice none 0 0,vI6 2]):=by
 have HP:=veil (h.hasProc p)
 rw[hno] at HP
 clear h
 refine ge ?_
 go_wp2_with (first
  |(go_at_call 40;refine cS HP.out ?_))
 go_ret2
 simp
end
section
variable {w:World} {lab:Nat→Nat} {a:Ad} {P n q T:Nat} {M:Mc}
theorem IsMc.left (h:IsMc w lab a P n q T M) (i:Int):
  vQ 16 #[vPt a.m,vI6 i] w (vU6 ((Cb.atL M.sv i).l:Int)):=by
 obtain⟨b,v,hp,_⟩:=h.sv
 have c6:=h.co.c6
 have HL:=veil ((Cb.left_ok hp i).mono (fun _ _ ⟨e,c,b⟩=>And.intro e (Cb.below_a b)))
 clear h hp
 refine ge ?_
 go_wp2_with (first
  |(go_at_call 44;refine cH HL.out fun w1 HQ=> ?_))
 go_ret
 exact⟨rfl,HQ.out⟩
end
section
variable {w:World} {lab:Nat→Nat} {a:Ad} {P n q T:Nat} {M:Mc}
def relS (n:Nat) (G S:Nat→Nat) (p:Int) (g:Nat):Nat→Nat:=if Gt.hasB n G S p g=true then upd S p.toNat 0 else S
theorem IsMc.release (h:IsMc w lab a P n q T M) (p:Int) (g:Nat):
  vCa 199 #[vPt a.tb,.agg #[vI6 p,vU3 (g:Int)]] w fun e w'=>(∃c:Int,e= .returned (vI6 c))∧Goes w w' lab a P n q T {M with S:=relS n M.G M.S p g}:=by
 cases hh:Gt.hasB n M.G M.S p g with
 |false=>
  refine(Gt.release_none h.tb p g hh).mono ?_
  rintro e w' ⟨rfl,hb⟩
  refine⟨⟨_,rfl⟩,?_⟩
  unfold relS
  rw[if_neg (by grind)]
  exact h.stay hb
 |true=>
  obtain⟨x,rfl,h1,h2,h3⟩:=Gt.hasB_some hh
  refine(Gt.release_some h.tb x g h1 h2 h3).mono ?_
  rintro e w' ⟨rfl,hr,hf⟩
  refine⟨⟨_,rfl⟩,?_⟩
  unfold relS
  rw[if_pos hh,Int.toNat_natCast]
  have h5:Fr (fun k=>lab k=5) w w':=(ofGt hf).to (fun k _ hk=>by rw[hk];exact h.ltb.2)
  exact⟨lab,h.toTab (h.same h5) h5 hr,h.same h5,h5.to (by omega)⟩
theorem IsMc.held (h:IsMc w lab a P n q T M) (t:Int):
  vCa 198 #[vPt a.gb,vI6 t] w fun e w'=> ∃v,e= .returned v∧Pi.IL w' w.heap.size v (Pi.heldA M.gr.T M.gr.L t)∧vBw w w':=by
 grind[IsMc.gr,Pi.PG.held]
def countP (x:Pc) (qu:Nat):Pc:=if x.s+1=qu then{x with s:=0,m:=true} else{x with s:=x.s+1}
end
end Go.Proofs.YtnmhcgpnhlhcgaaGreatDoor
namespace Go.Proofs.YtnmhcgpnhlhcgaaGreatDoor
open Go.RowKit Go.Lib Go.Shelf
attribute [local go_sem ↓] Go.wp_at_zero Go.wp_at_succ
theorem run_copy_k {P:Program} (w:World) (dT sT ty elem:TypeId) (k g o dLen dCap:Nat) (a:Addr) (sLen sCap:Nat) (cur:Array Value) (t:TypeId) (cs:List Value)
  (hu:P.underlying dT=some (.slice elem)) (hs:(P.info? elem).map (·.size)=some k)
  (hg:w.heap[g]? =some (.cells cur t (0,0))) (m:Nat) (hm:Nat.min sLen dLen=m) (hn:cs.length=m*k)
  (hsrc: ∀j v,cs[j]? =some v→w.cell? (a.add j)=some v) (hfit:o+cs.length≤cur.size) (h1: ∀v∈cs,v.oneCell'=true):
  (Builtin.copy_ #[dT,sT] ty #[.slice (some (vAt g o)) dLen dCap,.slice (some a) sLen sCap]).run P w=
   .ok (goInt m) (w.setRow g (cur.toList.take o++cs++cur.toList.drop (o+cs.length)).toArray):=by
 have hl:=run_loadCells_list (P:=P) w a cs hsrc
 have hst:=run_storeCells_at P g o t cs 0 cur w hg (by omega) h1
 cases hq:P.info? elem with
 |none=>grind
 |some i=>
  have hi:i.size=k:=by grind
  simp[Builtin.copy_,run_underlying hu,Builtin.lenOf,Builtin.firstCells,sizeOf,typeInfo,hq,hi,hm,←hn,hl,hst]
def pcCells (n:Nat):List Value:=(List.replicate n [Value.int .i64 (-1),Value.int .u64 0,Value.bool false]).flatten
theorem pcCells_len (n:Nat):(pcCells n).length=n*3:=by simp[pcCells]
theorem pcCells_one (n:Nat): ∀u∈pcCells n,u.oneCell'=true:=by
 intro u hu
 unfold pcCells at hu
 rw[List.mem_flatten] at hu
 obtain⟨l,hl,hm⟩:=hu
 rw[(List.mem_replicate.1 hl).2] at hm
 simp at hm
 rcases hm with rfl|rfl|rfl<;>rfl
theorem pcCells_add (a b:Nat):pcCells (a+b)=pcCells a++pcCells b:=by
 grind[pcCells,List.replicate_append_replicate]
theorem pcCells_take {a b:Nat} (h:a≤b):(pcCells b).take (a*3)=pcCells a:=by
 rw[show b=a+(b-a) by omega,pcCells_add,←pcCells_len a,List.take_left]
theorem pcCells_at: ∀(n i:Nat),i<n→(pcCells n)[i*3]? =some (vI6 (-1))∧(pcCells n)[i*3+1]? =some (vU6 0)∧(pcCells n)[i*3+2]? =some (.bool false):=by
 intro n i hi
 have e:pcCells n=pcCells i++(pcCells 1++pcCells (n-i-1)):=by rw[←pcCells_add,←pcCells_add];grind
 rw[e,←pcCells_len i]
 refine⟨?_,?_,?_⟩
 ·rw[List.getElem?_append_right lzr,Nat.sub_self];rfl
 ·rw[List.getElem?_append_right (by simp),Nat.add_sub_cancel_left];rfl
 ·rw[List.getElem?_append_right (by simp),Nat.add_sub_cancel_left];rfl
theorem mulu_ok (P:Nat) (hP:P≤64) (w:World):vS 70 #[vU6 1,vU6 (P:Int)] w (.tuple #[vU6 0,vU6 (P:Int)]):=by
 have h:=fun w=>Bq.mul64_any 1 (P:Int) w (by omega) (by omega) (by omega) (by omega)
 have e1:Bq.hiN 1 (P:Int)=0:=by unfold Bq.hiN;omega
 have e2:Bq.loN 1 (P:Int)=(P:Int):=by unfold Bq.loN;omega
 rw[e1,e2] at h
 have H:=veil h
 clear h
 refine ge ?_
 go_wp2_with (go_at_call 117;refine(H.out _).mono ?_;rintro e w' ⟨rfl,hw⟩;replace hw:=hw.symm;subst hw)
 go_ret2
 simp
def pcZero:Value:= .agg #[vI6 0,vU6 0,.bool false]
theorem infoPc:(Tryz.prog.info? 109).map (fun i=>(i.zero,i.size,i.bytes))=some (some pcZero,3,24):=by rfl
theorem sizePc:(Tryz.prog.info? 109).map (·.size)=some 3:=by rfl
theorem made_len (z:Array Value) (n:Nat):(madeCells z n).toList.length=n:=by simp[madeCells]
structure Rp (W:World) (b P k:Nat):Prop where
 blk: ∃xs:List Value,W.heap[b]? =some (.cells xs.toArray 109 (0,0))∧xs.length=P*3∧xs.take (k*3)=pcCells k
theorem Rp.next {W:World} {b P k:Nat} {xs:List Value} (h1:W.heap[b]? =some (.cells xs.toArray 109 (0,0))) (h2:xs.length=P*3) (h3:xs.take (k*3)=pcCells k) {m:Nat} (hk:k+m≤P):Rp (W.setRow b (splice xs (k*3) (pcCells m)).toArray) b P (k+m):=by
 refine⟨splice xs (k*3) (pcCells m),?_,?_,?_⟩
 ·grind[setRow_heap]
 ·grind[length_splice,pcCells_len]
 ·unfold splice
  grind[pcCells_add,pcCells_len]
theorem Rp.cells {W:World} {b P k:Nat} (h:Rp W b P k) (hk:k≤P) {i:Nat} (hi:i<k):PcAt W b (i*3) ⟨-1,0,false⟩:=by
 obtain⟨xs,h1,h2,h3⟩:=h
 obtain⟨a,b',c⟩:=pcCells_at k i hi
 rw[←h3] at a b' c
 have f: ∀j u,j<k*3→(xs.take (k*3))[j]? =some u→W.cell? (vAt b j)=some u:=fun j u hj hu=>by
  rw[List.getElem?_take,if_pos hj] at hu
  unfold World.cell?
  grind
 exact⟨(by grind),(by grind),(by grind)⟩
theorem infoIn:(Tryz.prog.info? 83).map (fun i=>(i.zero,i.size,i.bytes))=some (some (.agg #[vI6 0,vI6 0]),2,16):=by rfl
theorem eqNoP (w:World) (ad:Addr) (n cp:Nat):(binOp BinOp.eql 35 (.slice (some ad) n cp) (.slice none 0 0)).run Tryz.prog w= .ok (.bool false) w:=by rfl
theorem pcells_one (O R:Nat→Int): ∀k,∀u∈Ex.pcells O R k,u.oneCell'=true
 |0,u,h=>by cases h
 |k+1,u,h=>by
  rw[Ex.pcells,List.mem_append] at h
  rcases h with h|h
  ·exact pcells_one O R k u h
  ·simp at h
   rcases h with rfl|rfl<;>rfl
theorem pcells_of {w:World} {lb off len:Nat} {O R:Nat→Int} (hc: ∀j,j<len→w.cell? (vAt lb (off+j*2))=some (vI6 (O j))∧w.cell? (vAt lb (off+j*2+1))=some (vI6 (R j))): ∀j u,(Ex.pcells O R len)[j]? =some u→w.cell? (vAt lb (off+j))=some u:=by
 intro j u hu
 have hj:j<len*2:=by
  have:=(List.getElem?_eq_some_iff.1 hu).1
  grind[Ex.pcells_length]
 obtain⟨p1,p2⟩:=Ex.pcells_at O R len (j/2) (by omega)
 grind
theorem clone_prg (w:World) (a:Option Addr) (len cap:Nat) (O R:Nat→Int) (hp:Ex.Prg w a len O R) (h1:1≤len) (h2:len≤64):
  vCa 52 #[.slice a len cap] w fun e w'=> ∃v',e= .returned v'∧w'.ownsRow w.heap.size 83 2 v' len (Ex.pcells O R len)∧vBw w w':=by
 obtain⟨i0,hi,hz0,hz1,hz2⟩:=Cb.info_parts infoIn
 rcases hp with h0|⟨lb,off,rfl,hlb,hc⟩
 ·omega
 have hc':=pcells_of hc
 have HC:Hid (∀j u,(Ex.pcells O R len)[j]? =some u→(w.alloc (.cells #[] 83)).cell? (((vAt lb off):Addr).add j)=some u):=by
  intro j u hu
  have hadd:((vAt lb off):Addr).add j=(vAt lb (off+j)):=by unfold Addr.add;simp
  grind[World.cell?_alloc_lt]
 have HL:Hid ((w.alloc (.cells #[] 83)).ownsRow w.heap.size 83 2 (.slice (some (vA0 w.heap.size)) 0 0) 0 []):=by
  have:=World.ownsRow_lit (base:=w.heap.size) (e:=83) (size:=2) w #[] 0 lzr (by omega) rfl
  exact this
 have H1:=veil (pcells_one O R len)
 have HLn:=veil (Ex.pcells_length O R len)
 have hnil:=fun w=>eqNoP w (vAt lb off) len cap
 clear hc hc'
 generalize Ex.pcells O R len=xs at*
 refine ge ?_
 go_wp2_with (at_builtin;refine wpList_append_own _ rfl _ _ 35 rfl w.heap.size 83 i0 (.agg #[vI6 0,vI6 0]) 2 16 (by simp) hi hz0 hz1 hz2 rfl (by omega) _ 0 [] (by rfl) HL.out (vAt lb off) len cap xs (by rfl) HLn.out HC.out H1.out (by unfold maxLen;omega) (by omega) (by simp) ?_;intro v' w1 hown hgrow _;have HO:=veil hown;have HG:=veil (hgrow:World.grownBy _ _ (Value.slice (some (vA0 w.heap.size)) 0 0).ownBlock);clear hown hgrow)
 go_ret
 refine⟨v',rfl,by simpa using HO.out,?_⟩
 exact bzA.grown HG.out (by simp) (fun k hk=>by simp[Value.ownBlock] at hk;omega)
def newMc (P n m:Nat) (qu ag:Nat):Mc:=⟨qu,ag,[],fun _=>⟨-1,0,false⟩,fun _=>noTr,fun _=>0,fun _=>0,[],Pi.newM n m,List.replicate (P+1) [],0,[]⟩
def labN (s1 s2 s3 s4 s5 s6 m pr th:Nat) (k:Nat):Nat:=if k<s1 then 0 else if k<s2 then 5 else if k<s3 then 6 else if k<s4 then 7 else if k<s5 then 8 else if k<s6 then 9 else if k=m then 1 else if k=pr then 3 else if k=th then 4 else 0
def thZero:Value:= .agg #[vI6 0,vU3 0,vI6 0,vU8 0,vU8 0,vI6 0,vI6 0,vI6 0,vI6 0,vU6 0]
theorem infoTh:(Tryz.prog.info? 130).map (fun i=>(i.zero,i.size,i.bytes))=some (some thZero,10,72):=by rfl
theorem buildMa (q g:Int) (t s gr p w':Option Addr) (w:World):(Instr.build 106 #[(0,vU6 q),(1,vU6 g),(5,.pointer t),(6,.pointer s),(7,.pointer gr),(8,.pointer p),(9,.pointer w')]).run Tryz.prog w= .ok (.agg #[vU6 q,vU6 g,.slice none 0 0,.slice none 0 0,.slice none 0 0,.pointer t,.pointer s,.pointer gr,.pointer p,.pointer w']) w:=run_build w 106 _ _ (by kernel_rfl)
theorem labN_in {s1 s2 s3 s4 s5 s6 m pr th k:Nat} (h:s1≤s2∧s2≤s3∧s3≤s4∧s4≤s5∧s5≤s6):
  (s1≤k→k<s2→labN s1 s2 s3 s4 s5 s6 m pr th k=5)∧(s2≤k→k<s3→labN s1 s2 s3 s4 s5 s6 m pr th k=6)∧(s3≤k→k<s4→labN s1 s2 s3 s4 s5 s6 m pr th k=7)∧(s4≤k→k<s5→labN s1 s2 s3 s4 s5 s6 m pr th k=8)∧(s5≤k→k<s6→labN s1 s2 s3 s4 s5 s6 m pr th k=9)∧(k<s1→labN s1 s2 s3 s4 s5 s6 m pr th k=0):=by
 grind[labN]
structure Parts (W:World) (a:Ad) (P n q m qu ag s1 s2 s3 s4 s5 s6:Nat):Prop where
 hP:1≤P∧P≤64
 hn:1≤n∧n≤1024
 hq:qu<18446744073709551616∧ag<18446744073709551616
 ss:s1≤s2∧s2≤s3∧s3≤s4∧s4≤s5∧s5≤s6
 s0:0<s1
 t0:Gt.Tab W
 tb:Gt.Rep W a.tb a.tg n (fun _=>0) (fun _=>0)
 tbr:(s1≤a.tb∧a.tb<s2)∧s1≤a.tg∧a.tg<s2
 sv: ∃base,Cb.Pep W base a.sb P (.slice none 0 0) []
 svr:s2≤a.sb∧a.sb<s3
 gr: ∃b O,Pi.PG W b O a.gb (Pi.newM n m)∧ ∀k,O k→s3≤k∧k<s4
 pl: ∃O,PQ W O a.pb n P q 0 (List.replicate (P+1) [])∧ ∀k,O k→s4≤k∧k<s5
 wh:Wh.IsW W a.wb a.wg a.wm n 0 []
 whr: ∀k,Wh.O3 a.wb a.wg a.wm k→s5≤k∧k<s6
 ms:s6≤a.m∧s6≤a.pr∧s6≤a.th
 ne:a.m≠a.pr∧a.m≠a.th∧a.pr≠a.th
 lt:a.m<W.heap.size∧a.pr<W.heap.size∧a.th<W.heap.size∧s6≤W.heap.size
 co:Core W a P n qu ag
 c2:W.cell? (vAt a.m 2)=some (.slice none 0 0)
 pc:Pcs W a.pr P (fun _=>⟨-1,0,false⟩)
 th:Ths W a.th n (fun _=>noTr)
theorem Parts.is {W:World} {a:Ad} {P n q m qu ag s1 s2 s3 s4 s5 s6:Nat} (h:Parts W a P n q m qu ag s1 s2 s3 s4 s5 s6):IsMc W (labN s1 s2 s3 s4 s5 s6 a.m a.pr a.th) a P n q 0 (newMc P n m qu ag)∧ ∀k,labN s1 s2 s3 s4 s5 s6 a.m a.pr a.th k≠0→s1≤k:=by
 have L:=fun k=>labN_in (m:=a.m) (pr:=a.pr) (th:=a.th) (k:=k) h.ss
 have hms:=h.ms
 have hss:=h.ss
 have hne:=h.ne
 have hlt:=h.lt
 have Lm:labN s1 s2 s3 s4 s5 s6 a.m a.pr a.th a.m=1:=by
  unfold labN
  grind
 have Lp:labN s1 s2 s3 s4 s5 s6 a.m a.pr a.th a.pr=3:=by
  unfold labN
  grind
 have Lt:labN s1 s2 s3 s4 s5 s6 a.m a.pr a.th a.th=4:=by
  unfold labN
  grind
 obtain⟨b7,O7,g1,g2⟩:=h.gr
 obtain⟨O8,p1,p2⟩:=h.pl
 obtain⟨bs,hs⟩:=h.sv
 refine⟨⟨h.hP,h.hn,h.hq,?_,(L 0).2.2.2.2.2 h.s0,Lm,h.co,⟨_,[],h.c2,?_⟩,Lp,h.pc,Lt,h.th,⟨(L _).1 h.tbr.1.1 h.tbr.1.2,(L _).1 h.tbr.2.1 h.tbr.2.2⟩,h.tb,h.t0,(L _).2.1 h.svr.1 h.svr.2,⟨bs,_,hs,?_⟩,⟨b7,O7,g1,fun k hk=>(by grind)⟩,⟨O8,p1,fun k hk=>(by grind)⟩,fun k hk=>(L k).2.2.2.2.1 (h.whr k hk).1 (h.whr k hk).2,h.wh⟩,?_⟩
 ·grind[labN]
 ·exact⟨⟨rfl,.inl ⟨rfl,rfl⟩⟩,rfl,fun i p u hi _=>(by grind),fun k hk=>(by cases hk),fun p hp=>(by simp[newMc] at hp)⟩
 ·intro k hk;cases hk
 grind
theorem mcell {X:World} {mb:Nat} {cs:Array Value} {t:TypeId} (h:X.heap[mb]? =some (.cells cs t (0,0))) (i:Nat):X.cell? (vAt mb i)=cs[i]? :=by
 unfold World.cell?
 grind
theorem mfz {X:World} {mb:Nat} {cs:Array Value} {t:TypeId} (h:X.heap[mb]? =some (.cells cs t (0,0))) (i:Nat):X.frozen? (vAt mb i)=false:=by
 unfold World.frozen?
 grind
theorem th_made (n i j:Nat) (hi:i<n) (hj:j<10):(madeCells thZero.cells (n*10))[i*10+j]? =some (thZero.cells[j]!):=by
 have:=Pi.made_at thZero.cells (n*10) (i*10+j) (by omega)
 rw[show(i*10+j)%thZero.cells.size=j by show(i*10+j)%10=j;omega] at this
 grind
theorem Ths.made {W:World} {b n:Nat} (h:W.heap[b]? =some (.cells (madeCells thZero.cells (n*10)) 130 (0,0))):Ths W b n (fun _=>noTr):=by
 have c:=fun i j (hi:i<n) (hj:j<10)=>(mcell h _).trans (th_made n i j hi hj)
 exact⟨fun i hi=>⟨c i 0 hi (by decide),c i 1 hi (by decide),c i 2 hi (by decide),c i 3 hi (by decide),c i 4 hi (by decide),c i 5 hi (by decide),c i 6 hi (by decide),c i 7 hi (by decide),c i 8 hi (by decide),c i 9 hi (by decide)⟩,fun o=>mfz h o,fun i hi=>⟨by decide,by decide,by decide,by decide,by decide⟩⟩
section
variable {w w':World} {lab lab':Nat→Nat} {a:Ad} {P n q T:Nat} {M:Mc}
theorem IsMc.toPr (h:IsMc w lab a P n q T M) (hl:Lab w w' lab lab') (hf:Fr (fun k=>lab k=1∨lab k=2) w w') (hco:Core w' a P n M.qu M.ag) {v:Value} {vs:List Value} {l:List Pm} (h2:w'.cell? (vAt a.m 2)=some v) (hp:Prs w' lab' v l vs):IsMc w' lab' a P n q T {M with pr:=l}:=by
 have hb:=fun k (hk:lab k≠0) (h1:lab k≠1) (h2:lab k≠2)=>hf.block k (h.lt k hk) (by omega)
 have bp:=hb a.pr (by rw[h.lpr];decide) (by rw[h.lpr];decide) (by rw[h.lpr];decide)
 have bt:=hb a.th (by rw[h.lth];decide) (by rw[h.lth];decide) (by rw[h.lth];decide)
 have ne: ∀k j,lab k=j→j≠1→j≠2→ ¬(lab k=1∨lab k=2):=fun k j e h1 h2 q=>by omega
 refine⟨h.hP,h.hn,h.hq,hl.lt,h.z hl,h.l hl h.lm (by decide),hco,(by grind),h.l hl h.lpr (by decide),⟨fun i hi=>(h.pc.at_ i hi).kept bp,fun o=>(World.frozen?_of_block bp).trans (h.pc.fz o),h.pc.ok⟩,h.l hl h.lth (by decide),⟨fun i hi=>(h.th.at_ i hi).kept bt,fun o=>(World.frozen?_of_block bt).trans (h.th.fz o),h.th.ok⟩,⟨h.l hl h.ltb.1 (by decide),h.l hl h.ltb.2 (by decide)⟩,h.tb.frame hf.gt (ne _ _ h.ltb.1 (by decide) (by decide)) (ne _ _ h.ltb.2 (by decide) (by decide)),h.t0.frame hf.gt (by rw[h.l0];decide),h.l hl h.lsb (by decide),?_,?_,?_,fun k hk=>h.l hl (h.lw k hk) (by decide),h.wh.frame hf.wh (fun k hk=>ne _ _ (h.lw k hk) (by decide) (by decide))⟩
 ·obtain⟨base,v,hp,hq⟩:=h.sv
  exact⟨base,v,hp.frame hf.cb (ne _ _ h.lsb (by decide) (by decide)) (by grind),fun k hk=>h.l hl (hq k hk) (by decide)⟩
 ·obtain⟨b,O,hp,hq⟩:=h.gr
  exact⟨b,O,hp.frame hf.pi (by grind),fun k hk=>h.l hl (hq k hk) (by decide)⟩
 ·obtain⟨O,hp,hq⟩:=h.pl
  exact⟨O,hp.frame hf (by grind),fun k hk=>h.l hl (hq k hk) (by decide)⟩
theorem IsMc.loaded (h : IsMc w lab a P n q T M) {v : Value} {vs : List Value} (e2 : w.cell? (vAt a.m 2) = some v) (hp : Prs w lab v M.pr vs) {w2 : World} (hb2 : vBw w w2) {u : Value} {p : Pm} (hu : w2.ownsRow w.heap.size 83 2 u p.len (Ex.pcells p.O p.R p.len)) (hr : Ex.Rt p.len p.O p.R)
  {w3 : World} {v1 : Value} (ho : w3.ownsRow 0 35 1 v1 (M.pr.length + 1) (vs ++ [u])) (hg : w2.grownBy w3 v.ownBlock) (hat : v1.ownBlock = v.ownBlock ∨ v1.ownBlock = some w2.heap.size) :
  w3.cell? (vAt a.m 2) = some v ∧ w3.frozen? (vAt a.m 2) = false ∧ Goes w (w3.setCell (vAt a.m 2) v1) lab a P n q T { M with pr := M.pr ++ [p] } := by
 have hml := h.lt a.m (by rw [h.lm]; decide)
 have hvm : v.ownBlock ≠ some a.m := fun e => by grind[Prs.lb,IsMc.lm]
 have hvl := fun k (e : v.ownBlock = some k) => h.lt k (by rw [hp.lb k e]; decide)
 have b3 := fun k (hk : k < w2.heap.size) (hn : v.ownBlock ≠ some k) => hg.block k hk (by grind)
 have s2 := hb2.size
 have s3 := hg.size
 have m3 := (b3 a.m (by omega) hvm).trans (hb2.block _ hml)
 have hset : ∀ k, k ≠ a.m → (w3.setCell (vAt a.m 2) v1).heap[k]? = w3.heap[k]? := fun k hk => Below.heap_setCell _ _ _ _ hk
 have c23 := (World.cell?_of_block m3).trans e2
 have ful : ∀ k, u.ownBlock = some k → w.heap.size ≤ k ∧ k < w2.heap.size := fun k e => by
  obtain ⟨q1, q2, _⟩ := ownsRow_blk hu e
  omega
 have hcore := h.co.kept m3
 have ec : ∀ o, o ≠ 2 → (w3.setCell (vAt a.m 2) v1).cell? (vAt a.m o) = w3.cell? (vAt a.m o) := fun o ho => cfar w3 (by omega)
 have hf : Fr (fun k => lab k = 1 ∨ lab k = 2) w (w3.setCell (vAt a.m 2) v1) := by
  refine ⟨hg.os.trans hb2.os, hg.tape.trans hb2.tape, hg.output.trans hb2.output, by have : (w3.setCell (vAt a.m 2) v1).heap.size = w3.heap.size := by simp
                                                                                     omega, fun k hk hn => ?_⟩
  have k1 : k ≠ a.m := fun e => hn mK
  grind[Prs.lb,RowKit.Below.block]
 let lab' : Nat → Nat := fun k => if k < w.heap.size then lab k else if u.ownBlock = some k ∨ v1.ownBlock = some k then 2 else 0
 have l1 : ∀ k, k < w.heap.size → lab' k = lab k := fun k hk => by grind
 have l2 : ∀ k, w.heap.size ≤ k → (u.ownBlock = some k ∨ v1.ownBlock = some k) → lab' k = 2 := fun k hk e => by grind
 have v1l := fun k (e : v1.ownBlock = some k) => (ownsRow_blk ho e).2.1
 have v1b : ∀ k, v1.ownBlock = some k → lab' k = 2 := fun k e => by
  grind[Prs.lb]
 have hl : Lab w (w3.setCell (vAt a.m 2) v1) lab lab' := by
  refine ⟨l1, fun k hk => ?_⟩
  have e3 : (w3.setCell (vAt a.m 2) v1).heap.size = w3.heap.size := by simp
  grind
 have v1m : ∀ k, v1.ownBlock = some k → k ≠ a.m := fun k e q => by
  grind
 have hprs : Prs (w3.setCell (vAt a.m 2) v1) lab' v1 (M.pr ++ [p]) (vs ++ [u]) := by
  refine ⟨?_, by grind[Prs.len], ?_, v1b, ?_⟩
  ·grind[row_keptF]
  ·intro i x y hx hy
   rcases Nat.lt_or_ge i M.pr.length with q | q
   ·rw [List.getElem?_append_left q] at hx
    rw [List.getElem?_append_left (by rw [hp.len]; exact q)] at hy
    obtain ⟨r1, r2⟩ := hp.at_ i x y hx hy
    refine ⟨row_keptF r1 (fun k e => ?_), fun k e => by grind[IsMc.lt]⟩
    have hk := h.lt k (by grind)
    have hkm : k ≠ a.m := fun q => by grind[IsMc.lm]
    rw [hset k hkm]
    by_cases ev : v.ownBlock = some k
    ·exfalso
     obtain ⟨_, _, x1, y1⟩ := ownsRow_blk r1 e
     obtain ⟨_, _, x2, y2⟩ := ownsRow_blk hp.row ev
     grind
    grind[RowKit.Below.block]
   ·have hi : i = M.pr.length := by
     grind
    subst hi
    rw [List.getElem?_append_right lzr, Nat.sub_self] at hx
    rw [List.getElem?_append_right (by rw [hp.len]; omega), hp.len, Nat.sub_self] at hy
    simp at hx hy
    subst hx hy
    refine ⟨?_, fun k e => (by grind)⟩
    have hu0 := Pi.ownsRow_lift hu (fun k e => Nat.zero_le _)
    refine row_keptF hu0 (fun k e => ?_)
    grind
  ·intro x hx
   rcases List.mem_append.1 hx with q | q
   ·exact hp.ok x q
   ·simp at q; subst q; exact hr
 refine ⟨c23, hcore.fz 2, lab', h.toPr hl hf ?_ (Gt.set_same _ _ _ _ c23) hprs, hl, hf.to (by omega)⟩
 exact ⟨(ec 0 (by decide)).trans hcore.c0, (ec 1 (by decide)).trans hcore.c1, (ec 3 (by decide)).trans hcore.c3, (ec 4 (by decide)).trans hcore.c4, (ec 5 (by decide)).trans hcore.c5, (ec 6 (by decide)).trans hcore.c6, (ec 7 (by decide)).trans hcore.c7, (ec 8 (by decide)).trans hcore.c8, (ec 9 (by decide)).trans hcore.c9, fun o => by grind[frozen_set,Core.fz]⟩
end
theorem step_copy_k {P:Program} {ops:Array Oper} {o:Oper} {a:Act} {w:World} {K:Act→World→Prop} {Q:Exit→Act→World→Prop} {E:Prop} (hgd:o.guard=none) (d s:Operand) (dT sT:TypeId)
  (ho:o.op= .call {callee:= .builtin .copy,args:= #[d,s],argTypes:= #[dT,sT]}) (elem:TypeId) (hu:P.underlying dT=some (.slice elem)) (k:Nat) (hsz:(P.info? elem).map (·.size)=some k)
  (g off dLen dCap:Nat) (ad:Addr) (sLen sCap:Nat) (hd:a.eval d= .slice (some (vAt g off)) dLen dCap) (hs:a.eval s= .slice (some ad) sLen sCap)
  (cur:List Value) (t:TypeId) (hg:w.heap[g]? =some (.cells cur.toArray t (0,0))) (m:Nat) (hm:Nat.min sLen dLen=m) (cs:List Value) (hn:cs.length=m*k)
  (hsrc: ∀j v,cs[j]? =some v→w.cell? (ad.add j)=some v) (hfit:off+cs.length≤cur.length) (h1: ∀v∈cs,v.oneCell'=true)
  (h: ∀w',w'=w.setRow g (splice cur off cs).toArray→K (a.put o.dst (goInt m)) w'):
  if Region.wanted o (yielded ops a.tmps)=true then Oper.wp P o a w K Q else E:=by
 have hw:Region.wanted o (yielded ops a.tmps)=true:=by simp[Region.wanted,hgd]
 rw[if_pos hw]
 have hrun:=run_copy_k (P:=P) w dT sT o.type elem k g off dLen dCap ad sLen sCap cur.toArray t cs hu hsz hg m hm hn hsrc (by omega) h1
 unfold Oper.wp
 simp[execOp,ho,resolve,invoke,builtin,hd,hs,hrun,Result.andThen]
 refine h _ ?_
 rfl
theorem repeat_ok (w : World) (g P : Nat) (hP : 1 ≤ P ∧ P ≤ 64) (c0 : w.cell? (vA0 g) = some (vI6 (-1))) (c1 : w.cell? (vAt g 1) = some (vU6 0)) (c2 : w.cell? (vAt g 2) = some (.bool false)) :
  vCa 38 #[.slice (some (vA0 g)) 1 1, vI6 (P : Int)] w fun e w' => ∃ b, e = .returned (.slice (some (vA0 b)) P P) ∧ (w.heap.size ≤ b ∧ b < w'.heap.size) ∧ Pcs w' b P (fun _ => ⟨-1, 0, false⟩) ∧ vBw w w' := by
 obtain ⟨i0, hi, hz0, hz1, hz2⟩ := Cb.info_parts infoPc
 have hmk : ∀ w, (Instr.makeSlice 103 (vI6 (P : Int)) (vI6 (P : Int))).run Tryz.prog w = .ok (.slice (some (vA0 w.heap.size)) P P) (w.alloc (.cells (madeCells pcZero.cells (P * 3)) 109)) := by
  intro w
  have := run_make w 103 109 i0 pcZero Tryz.underlying103 hi hz0 .i64 .i64 (P : Int) (P : Int) (by omega) (by omega) (by grind) (by omega)
  grind
 have hgl := World.block_lt_of_cell? w _ c0
 have HM := veil (fun w => mulu_ok P hP.2 w)
 have hw1 : IntKind.u64.wrap (P : Int) = (P : Int) := by simp [IntKind.wrap, IntKind.bits, IntKind.signed]; omega
 have hw2 : IntKind.i64.wrap (P : Int) = (P : Int) := by simp [IntKind.wrap, IntKind.bits, IntKind.signed]; omega
 have hp0 : ¬ (P : Int) < 0 := by omega
 have hp1 : ¬ (9223372036854775807 : Int) < (P : Int) := by omega
 have HGB : Hid ((w.alloc (.cells (madeCells pcZero.cells (P * 3)) 109)).heap[w.heap.size]? = some (.cells (madeCells pcZero.cells (P * 3)).toList.toArray 109 (0, 0))) := World.alloc_heap_new w _
 have HSR : Hid (∀ j v, (pcCells 1)[j]? = some v → (w.alloc (.cells (madeCells pcZero.cells (P * 3)) 109)).cell? (((vA0 g) : Addr).add j) = some v) := by
  intro j u hu
  have hadd : ((vA0 g) : Addr).add j = (vAt g j) := by unfold Addr.add; grind
  rw [hadd, World.cell?_alloc_lt _ _ _ (by omega)]
  match j, hu with
  | 0, hu => injection hu with hu; grind
  | 1, hu => injection hu with hu; grind
  | 2, hu => injection hu with hu; grind
 have hln := made_len pcZero.cells (P * 3)
 have HP := veil hP
 clear hi hz0 hz1 hz2 c0 c1 c2
 generalize hmc : (madeCells pcZero.cells (P * 3)) = mc at *
 clear hmc
 have hcp := run_copy_k (P := Tryz.prog) (w.alloc (.cells mc 109)) 103 103 3 109 3 w.heap.size 0 P P (vA0 g) 1 1 mc 109 (pcCells 1) Tryz.underlying103 sizePc (by assumption) 1 (by grind) rfl HSR.out (by rw [pcCells_len]; grind) (pcCells_one 1)
 have HR1 : Hid (Rp ((w.alloc (.cells mc 109)).setRow w.heap.size (mc.toList.take 0 ++ pcCells 1 ++ mc.toList.drop (0 + (pcCells 1).length)).toArray) w.heap.size P 1) := by
  have := Rp.next (W := w.alloc (.cells mc 109)) (b := w.heap.size) (P := P) (k := 0) (xs := mc.toList) HGB.out hln rfl (m := 1) (by omega)
  unfold Hid
  simpa [splice] using this
 have HB1 : Hid (vBw w ((w.alloc (.cells mc 109)).setRow w.heap.size (mc.toList.take 0 ++ pcCells 1 ++ mc.toList.drop (0 + (pcCells 1).length)).toArray)) := below_setRow bzA lzr _
 have HS1 : Hid (((w.alloc (.cells mc 109)).setRow w.heap.size (mc.toList.take 0 ++ pcCells 1 ++ mc.toList.drop (0 + (pcCells 1).length)).toArray).heap.size = w.heap.size + 1) := by unfold Hid; simp
 generalize ((w.alloc (.cells mc 109)).setRow w.heap.size (mc.toList.take 0 ++ pcCells 1 ++ mc.toList.drop (0 + (pcCells 1).length)).toArray) = W1 at *
 clear HGB HSR hln
 refine ge ?_
 go_wp2_with (go_at_call 70; refine cS (HM.out _) ?_)
 go_loopw [8] (fun nv wr => ∃ k : Nat, nv = vI6 k ∧ 1 ≤ k ∧ k ≤ P ∧ Rp wr w.heap.size P k ∧ vBw w wr ∧ w.heap.size < wr.heap.size) (fun nv _ => P - (RowKit.intOf nv).toNat)
 case atStart => exact ⟨1, rfl, by omega, HP.out.1, HR1.out, HB1.out, by rw [HS1.out]; omega⟩
 case round =>
  obtain ⟨k, rfl, hk1, hkP, hR, hB, hsz⟩ := hrel
  have HR := veil hR
  have HB := veil hB
  have HSZ := veil hsz
  clear hR hB hsz
  by_cases hkp : k < P
  ·have hkp' : (k : Int) < (P : Int) := by omega
   go_wp2
   obtain ⟨xs, hx1, hx2, hx3⟩ := HR.out
   have HX1 := veil hx1
   obtain ⟨m, hm⟩ : ∃ m, Nat.min k (P - k) = m := ⟨_, rfl⟩
   have hm1 : 1 ≤ m ∧ k + m ≤ P ∧ m ≤ k := by
    grind
   have HMN := veil hm
   clear hm
   have hpk : ¬ P = k := by omega
   have hwk : IntKind.i64.wrap ((k : Int) + (m : Int)) = ((k + m : Nat) : Int) := by simp [IntKind.wrap, IntKind.bits, IntKind.signed]; omega
   have HNX := veil (Rp.next (W := wr.drew) (by exact hx1) hx2 hx3 (m := m) hm1.2.1)
   have HFIT : Hid (k * 3 + (pcCells m).length ≤ xs.length) := by unfold Hid; rw [pcCells_len, hx2]; omega
   have HSRC : Hid (∀ j v, (pcCells m)[j]? = some v → wr.cell? (((vA0 w.heap.size) : Addr).add j) = some v) := by
    intro j u hu
    have hadd : ((vA0 w.heap.size) : Addr).add j = (vAt w.heap.size j) := by unfold Addr.add; grind
    have hj := (List.getElem?_eq_some_iff.1 hu).1
    rw [pcCells_len] at hj
    rw [hadd]
    unfold World.cell?
    simp only [hx1]
    rw [← pcCells_take (a := m) (b := k) hm1.2.2, ← hx3, List.getElem?_take, if_pos hj, List.getElem?_take, if_pos (by omega)] at hu
    grind
   clear hx1 hx2 hx3
   refine wp_region_held_drew (S := fun _ => True) (by rfl) ?_ (fun hHeld => ?_)
   ·trivial
   refine st ?_
   repeat' first
    | refine dn ?_
    | refine tk ?_
    | refine rd ?_
    | exact opZ
    | refine opN ?_
    | refine opS ?_ ?_
    | (refine opY 7 (fun K hK => ?_)
       refine step_copy_k (by rfl) _ _ _ _ (by rfl) 109 Tryz.underlying103 3 sizePc w.heap.size (k * 3) (P - k) (P - k) (vA0 w.heap.size) k P (by rfl) (by rfl) xs 109 HX1.out m HMN.out (pcCells m) (pcCells_len _) HSRC.out HFIT.out (pcCells_one _) ?_
       intro w2 hw2
       have HW2 := veil hw2
       clear hw2
       refine hK.out _ _ ?_ (fun hHeld => ?_)
       ·trivial
       clear hK K
       try simp only [puX])
   refine ⟨?_⟩
   go_wp2
   go_roundw
   case rel =>
    rw [HW2.out]
    exact ⟨k + m, by go_num, by omega, by omega, HNX.out, below_setRow (w := wr.drew) (below_post HB.out rfl rfl rfl rfl) lzr _, by simpa using HSZ.out⟩
   case measure => simp [RowKit.intOf]; omega
  ·have hkp' : ¬ (k : Int) < (P : Int) := by omega
   obtain rfl : k = P := by omega
   go_wp2
   go_ret
   refine ⟨_, rfl, ⟨lzr, HSZ.out⟩, ⟨fun i hi => HR.out.cells lzr hi, fun o => ?_, fun i hi => by simp⟩, HB.out⟩
   obtain ⟨xs, h1, _, _⟩ := HR.out
   unfold World.frozen?
   grind
def lk (V0 V:World):Prop:=V.heap=V0.heap∧V.os=V0.os∧V.tape=V0.tape∧V.output=V0.output
theorem lk.bel {V0 V w':World} (h:lk V0 V) (hb:vBw V w'):vBw V0 w':=by
 obtain⟨e1,e2,e3,e4⟩:=h
 exact⟨hb.os.trans e2,hb.tape.trans e3,hb.output.trans e4,by rw[←e1];exact hb.size,fun k hk=>(hb.block k (by grind)).trans (by rw[e1])⟩
theorem c4n {X:World} {mb:Nat} {v:Value} {o:Obj} {u:Value} (hm:mb<X.heap.size) (c:X.cell? (vAt mb 4)=some u) (f:X.frozen? (vAt mb 4)=false):((X.setCell (vAt mb 3) v).alloc o).cell? (vAt mb 4)=some u∧((X.setCell (vAt mb 3) v).alloc o).frozen? (vAt mb 4)=false:=by
 have hs:mb<(X.setCell (vAt mb 3) v).heap.size:=by simp_all
 have hb:((X.setCell (vAt mb 3) v).alloc o).heap[mb]? =(X.setCell (vAt mb 3) v).heap[mb]? :=Below.heap_alloc _ _ _ hs
 refine⟨?_,?_⟩
 ·rw[World.cell?_of_block hb]
  grind[cfar]
 ·rw[World.frozen?_of_block hb,frozen_set]
  exact f
theorem buildPn (w:World):(Instr.build 109 #[(0,vI6 (-1))]).run Tryz.prog w= .ok (.agg #[vI6 (-1),vU6 0,.bool false]) w:=run_build w 109 _ _ (by rfl)
theorem new_ok (P n q m qu ag:Nat) (hP:1≤P∧P≤64) (hn:1≤n∧n≤1024) (hq:1≤q∧q≤256) (hm:m≤32) (hqu:1≤qu∧qu<18446744073709551616) (hag:1≤ag∧ag<18446744073709551616) (w:World) (ht:Gt.Tab w):
  Calls Tryz.prog 11 #[.agg #[.int .i64 (P:Int),.int .i64 (n:Int),.int .i64 (q:Int),.int .i64 (m:Int),.int .u64 (qu:Int),.int .u64 (ag:Int)]] w fun e w'=> ∃a lab,e= .returned (.pointer (some ⟨a.m,0,none⟩))∧IsMc w' lab a P n q 0 (newMc P n m qu ag)∧(∀k,lab k≠0→w.heap.size≤k)∧Below w.heap.size w w':=by
 obtain⟨W0,hW0⟩: ∃W0,w.alloc (.cells #[.int .i64 (P:Int),.int .i64 (n:Int),.int .i64 (q:Int),.int .i64 (m:Int),.int .u64 (qu:Int),.int .u64 (ag:Int)] 30)=W0:=⟨_,rfl⟩
 obtain⟨cb,hcb⟩: ∃cb,w.heap.size=cb:=⟨_,rfl⟩
 have HB0:Hid (Below w.heap.size w W0):=by rw[←hW0];exact bzA
 have c0:W0.cell? ⟨cb,0,none⟩=some (.int .i64 (P:Int)):=by rw[←hW0,←hcb];exact newc _ _ _ 0 _ rfl
 have c1:W0.cell? ⟨cb,1,none⟩=some (.int .i64 (n:Int)):=by rw[←hW0,←hcb];exact newc _ _ _ 1 _ rfl
 have c2:W0.cell? ⟨cb,2,none⟩=some (.int .i64 (q:Int)):=by rw[←hW0,←hcb];exact newc _ _ _ 2 _ rfl
 have c3:W0.cell? ⟨cb,3,none⟩=some (.int .i64 (m:Int)):=by rw[←hW0,←hcb];exact newc _ _ _ 3 _ rfl
 have c4:W0.cell? ⟨cb,4,none⟩=some (.int .u64 (qu:Int)):=by rw[←hW0,←hcb];exact newc _ _ _ 4 _ rfl
 have c5:W0.cell? ⟨cb,5,none⟩=some (.int .u64 (ag:Int)):=by rw[←hW0,←hcb];exact newc _ _ _ 5 _ rfl
 have hC: ∀V,Below W0.heap.size W0 V→V.cell? ⟨cb,0,none⟩=some (.int .i64 (P:Int))∧V.cell? ⟨cb,1,none⟩=some (.int .i64 (n:Int))∧V.cell? ⟨cb,2,none⟩=some (.int .i64 (q:Int))∧V.cell? ⟨cb,3,none⟩=some (.int .i64 (m:Int))∧V.cell? ⟨cb,4,none⟩=some (.int .u64 (qu:Int))∧V.cell? ⟨cb,5,none⟩=some (.int .u64 (ag:Int)):=fun V hb=>⟨kc hb c0,kc hb c1,kc hb c2,kc hb c3,kc hb c4,kc hb c5⟩
 have HC:=veil hC
 have HT0:=veil<|ht.below HB0.out
 have HZ:Hid (Below W0.heap.size W0 W0):=bzR
 have HG:Hid (∀V0 V,Below W0.heap.size W0 V0→lk V0 V→Calls Tryz.prog 33 #[.int .i64 (n:Int)] V fun e w'=> ∃tb tg,e= .returned (.pointer (some ⟨tb,0,none⟩))∧Gt.Rep w' tb tg n (fun _=>0) (fun _=>0)∧((V0.heap.size≤tb∧tb<w'.heap.size)∧V0.heap.size≤tg∧tg<w'.heap.size)∧Below V0.heap.size V0 w'∧Below W0.heap.size W0 w'):=fun V0 V h0 hl=>by
  refine(Gt.new_ok n V hn.1 hn.2).mono ?_
  rintro e w' ⟨rfl,hr,hb⟩
  have hb':=hl.bel hb
  obtain⟨cp,hsl⟩:=hr.sl
  have h1:=World.block_lt_of_cell? w' _ hsl
  have h2:=World.block_lt_of_cell? w' _ (hr.gn 0 hn.1)
  have hs:V.heap.size=V0.heap.size:=by rw[hl.1]
  exact⟨_,_,rfl,hr,⟨⟨by omega,h1⟩,by omega,h2⟩,hb',bt h0 hb'⟩
 have HS:Hid (∀V0 V,Below W0.heap.size W0 V0→lk V0 V→Calls Tryz.prog 34 #[.int .i64 (P:Int)] V fun e w'=> ∃sb,e= .returned (.pointer (some ⟨sb,0,none⟩))∧Cb.Pep w' V0.heap.size sb P (.slice none 0 0) []∧(V0.heap.size≤sb∧sb<w'.heap.size)∧Below V0.heap.size V0 w'∧Below W0.heap.size W0 w'):=fun V0 V h0 hl=>by
  refine(Cb.new_ok V P hP.1 hP.2).mono ?_
  rintro e w' ⟨rfl,rfl⟩
  have hs:V.heap.size=V0.heap.size:=by rw[hl.1]
  have hb':=hl.bel ((Below.refl V.heap.size V).alloc lzr (.cells #[.int .u64 (P:Int),.slice none 0 0] 155))
  exact⟨_,rfl,Cb.Pep.new V P hP.1 hP.2 _ (by omega),⟨by omega,by simp⟩,hb',bt h0 hb'⟩
 have HPI:Hid (∀V0 V,Below W0.heap.size W0 V0→lk V0 V→Calls Tryz.prog 35 #[.int .i64 (n:Int),.int .i64 (m:Int)] V fun e w'=> ∃gb O,e= .returned (.pointer (some ⟨gb,0,none⟩))∧Pi.PG w' V0.heap.size O gb (Pi.newM n m)∧(∀k,O k→V0.heap.size≤k∧k<w'.heap.size)∧Below V0.heap.size V0 w'∧Below W0.heap.size W0 w'):=fun V0 V h0 hl=>by
  refine(Pi.pnew_ok n m V hn.1 hn.2 hm).mono ?_
  rintro e w' ⟨s,O,rfl,hg,hb⟩
  have hb':=hl.bel hb
  rw[hl.1] at hg
  exact⟨_,_,rfl,hg,fun k hk=>⟨hg.ge hk,hg.lt hk⟩,hb',bt h0 hb'⟩
 have HPR:Hid (∀V0 V,Below W0.heap.size W0 V0→lk V0 V→Calls Tryz.prog 36 #[.int .i64 (P:Int),.int .i64 (n:Int),.int .i64 (q:Int)] V fun e w'=> ∃pb O,e= .returned (.pointer (some ⟨pb,0,none⟩))∧PQ w' O pb n P q 0 (List.replicate (P+1) [])∧(∀k,O k→V0.heap.size≤k∧k<w'.heap.size)∧Below V0.heap.size V0 w'∧Below W0.heap.size W0 w'):=fun V0 V h0 hl=>by
  refine(pnew_pq P n q V hP hn hq).mono ?_
  rintro e w' ⟨O,rfl,hg,ho,hb⟩
  have hb':=hl.bel hb
  rw[hl.1] at ho
  exact⟨_,_,rfl,hg,fun k hk=>⟨ho k hk,hg.blocks k hk⟩,hb',bt h0 hb'⟩
 have HWH:Hid (∀V0 V,Below W0.heap.size W0 V0→lk V0 V→Calls Tryz.prog 37 #[.int .i64 (n:Int)] V fun e w'=> ∃b g mb,e= .returned (.pointer (some ⟨b,0,none⟩))∧Wh.IsW w' b g mb n 0 []∧(∀k,Wh.O3 b g mb k→V0.heap.size≤k∧k<w'.heap.size)∧Below V0.heap.size V0 w'∧Below W0.heap.size W0 w'):=fun V0 V h0 hl=>by
  refine(Wh.new_isW n V hn.1 hn.2).mono ?_
  rintro e w' ⟨b,g,mb,rfl,ho,hg,hb⟩
  have hb':=hl.bel hb
  rw[hl.1] at ho
  exact⟨_,_,_,rfl,hg,ho,hb',bt h0 hb'⟩
 have hbm:=buildMa
 have HW0:=veil hW0
 have HCB:=veil hcb
 have hqu': ¬(qu:Int)<1:=by omega
 have hag': ¬(ag:Int)<1:=by omega
 clear ht
 refine ge ?_
 go_wp2
 clear HW0 hW0 hcb
 go_region_held3 (fun w'=>w'.cell? ⟨cb,0,none⟩=some (.int .i64 (P:Int))∧w'.cell? ⟨cb,1,none⟩=some (.int .i64 (n:Int))∧w'.cell? ⟨cb,2,none⟩=some (.int .i64 (q:Int))∧w'.cell? ⟨cb,3,none⟩=some (.int .i64 (m:Int))∧w'.cell? ⟨cb,4,none⟩=some (.int .u64 (qu:Int))∧w'.cell? ⟨cb,5,none⟩=some (.int .u64 (ag:Int)))
  (first|exact HC.out _ HB5.out|exact HC.out _ HB4.out|exact HC.out _ HB3.out|exact HC.out _ HB2.out|exact HC.out _ HB1.out|go_keep)
  (first
   |(go_at_call 33;refine(HG.out W0 _ HZ.out (by exact⟨rfl,rfl,rfl,rfl⟩)).mono ?_;rintro e w1 ⟨tb,tg,rfl,r1,r2,b1,b1'⟩;have HR1:=veil r1;have HD1:=veil r2;have HL1:=veil b1;have HB1:=veil b1';clear r1 r2 b1 b1')
   |(go_at_call 34;refine(HS.out w1 _ HB1.out (by exact⟨rfl,rfl,rfl,rfl⟩)).mono ?_;rintro e w2 ⟨sb,rfl,r1,r2,b1,b1'⟩;have HR2:=veil r1;have HD2:=veil r2;have HL2:=veil b1;have HB2:=veil b1';clear r1 r2 b1 b1')
   |(go_at_call 35;refine(HPI.out w2 _ HB2.out (by exact⟨rfl,rfl,rfl,rfl⟩)).mono ?_;rintro e w3 ⟨gb,O7,rfl,r1,r2,b1,b1'⟩;have HR3:=veil r1;have HD3:=veil r2;have HL3:=veil b1;have HB3:=veil b1';clear r1 r2 b1 b1')
   |(go_at_call 36;refine(HPR.out w3 _ HB3.out (by exact⟨rfl,rfl,rfl,rfl⟩)).mono ?_;rintro e w4 ⟨pb,O8,rfl,r1,r2,b1,b1'⟩;have HR4:=veil r1;have HD4:=veil r2;have HL4:=veil b1;have HB4:=veil b1';clear r1 r2 b1 b1')
   |(go_at_call 37;refine(HWH.out w4 _ HB4.out (by exact⟨rfl,rfl,rfl,rfl⟩)).mono ?_;rintro e w5 ⟨wb,wg,wm,rfl,r1,r2,b1,b1'⟩;have HR5:=veil r1;have HD5:=veil r2;have HL5:=veil b1;have HB5:=veil b1';clear r1 r2 b1 b1'))
 rename_i hHeld
 clear hHeld
 have hblk:(w5.alloc (.cells #[.int .u64 (qu:Int),.int .u64 (ag:Int),.slice none 0 0,.slice none 0 0,.slice none 0 0,.pointer (some ⟨tb,0,none⟩),.pointer (some ⟨sb,0,none⟩),.pointer (some ⟨gb,0,none⟩),.pointer (some ⟨pb,0,none⟩),.pointer (some ⟨wb,0,none⟩)] 106)).heap[w5.heap.size]? =some (.cells #[.int .u64 (qu:Int),.int .u64 (ag:Int),.slice none 0 0,.slice none 0 0,.slice none 0 0,.pointer (some ⟨tb,0,none⟩),.pointer (some ⟨sb,0,none⟩),.pointer (some ⟨gb,0,none⟩),.pointer (some ⟨pb,0,none⟩),.pointer (some ⟨wb,0,none⟩)] 106 (0,0)):=World.alloc_heap_new _ _
 have hb6:Below w5.heap.size w5 (w5.alloc (.cells #[.int .u64 (qu:Int),.int .u64 (ag:Int),.slice none 0 0,.slice none 0 0,.slice none 0 0,.pointer (some ⟨tb,0,none⟩),.pointer (some ⟨sb,0,none⟩),.pointer (some ⟨gb,0,none⟩),.pointer (some ⟨pb,0,none⟩),.pointer (some ⟨wb,0,none⟩)] 106)):=bzA
 have hs6:(w5.alloc (.cells #[.int .u64 (qu:Int),.int .u64 (ag:Int),.slice none 0 0,.slice none 0 0,.slice none 0 0,.pointer (some ⟨tb,0,none⟩),.pointer (some ⟨sb,0,none⟩),.pointer (some ⟨gb,0,none⟩),.pointer (some ⟨pb,0,none⟩),.pointer (some ⟨wb,0,none⟩)] 106)).heap.size=w5.heap.size+1:=by simp
 generalize (w5.alloc (.cells #[.int .u64 (qu:Int),.int .u64 (ag:Int),.slice none 0 0,.slice none 0 0,.slice none 0 0,.pointer (some ⟨tb,0,none⟩),.pointer (some ⟨sb,0,none⟩),.pointer (some ⟨gb,0,none⟩),.pointer (some ⟨pb,0,none⟩),.pointer (some ⟨wb,0,none⟩)] 106))=W6 at*
 obtain⟨mb,hmb⟩: ∃mb,w5.heap.size=mb:=⟨_,rfl⟩
 rw[hmb] at hblk hs6 hb6
 have hcl:cb<W0.heap.size:=World.block_lt_of_cell? W0 _ c0
 have hcm:cb<mb:=by have:=HB5.out.size;omega
 have hb06:=bt HB5.out (by unfold vBw;rw[hmb];exact hb6)
 obtain⟨d0,d1,_,_,d4,d5⟩:=hC _ hb06
 have x7:=mcell hblk 7
 have x8:=mcell hblk 8
 simp only[List.getElem?_toArray] at x7 x8
 have hrp:=repeat_ok (W6.alloc (.cells #[.int .i64 (-1),.int .u64 0,.bool false] 109)) W6.heap.size P hP (newc _ _ _ 0 _ rfl) (newc _ _ _ 1 _ rfl) (newc _ _ _ 2 _ rfl)
 have hb7:Below W6.heap.size W6 (W6.alloc (.cells #[.int .i64 (-1),.int .u64 0,.bool false] 109)):=bzA
 have HRP:Hid (Calls Tryz.prog 38 #[.slice (some ⟨W6.heap.size,0,none⟩) 1 1,.int .i64 (P:Int)] (W6.alloc (.cells #[.int .i64 (-1),.int .u64 0,.bool false] 109)) fun e w'=> ∃b,e= .returned (.slice (some ⟨b,0,none⟩) P P)∧(W6.heap.size≤b∧b<w'.heap.size)∧Pcs w' b P (fun _=>⟨-1,0,false⟩)∧Below W6.heap.size W6 w'∧W6.heap.size<w'.heap.size):=by
  refine hrp.mono ?_
  rintro e w' ⟨b,rfl,h1,h2,h3⟩
  refine⟨b,rfl,⟨by have:=h1.1;simp at this;omega,h1.2⟩,h2,bt hb7 h3,by have:=h3.size;simp at this;omega⟩
 have hbp:=buildPn
 have d0':=(hC _ (bt hb06 hb7)).1
 obtain⟨i0,hi,hz0,hz1,hz2⟩:=Cb.info_parts infoTh
 have hmk: ∀w,(Instr.makeSlice 104 (.int .i64 (n:Int)) (.int .i64 (n:Int))).run Tryz.prog w= .ok (.slice (some ⟨w.heap.size,0,none⟩) n n) (w.alloc (.cells (madeCells thZero.cells (n*10)) 130)):=by
  intro w
  have:=run_make w 104 130 i0 thZero Tryz.underlying104 hi hz0 .i64 .i64 (n:Int) (n:Int) (by omega) (by omega) (by rw[hz2];omega) (by omega)
  rw[hz1,show(n:Int).toNat=n by omega] at this
  exact this
 obtain⟨mc,hmc⟩: ∃mc,madeCells thZero.cells (n*10)=mc:=⟨_,rfl⟩
 rw[hmc] at hmk
 have HMC:=veil hmc
 clear hmc
 have HB06:=veil hb06
 have HBLK:=veil hblk
 have HS6:=veil hs6
 have HMB:=veil hmb
 have HB6:=veil hb6
 have HCL:=veil hcl
 clear hrp hb7 hC c0 c1 c2 c3 c4 c5 hi hz0 hz1 hz2 hb06 hblk hs6 hb6 hcl
 rw[hmb]
 clear hmb
 go_wp2_with (go_at_call 38;refine(HRP.out).mono ?_;rintro e w8 ⟨pr,rfl,r1,r2,b1,s8⟩;have HR8:=veil r2;have HD8:=veil r1;have HB8:=veil b1;have HS8:=veil s8;have hc8:=HC.out _ (bt HB06.out b1);have y1:=hc8.2.1;have m8:=(b1.block mb (by have:=HS6.out;omega)).trans HBLK.out;have x3:w8.cell? ⟨mb,3,none⟩=some (.slice none 0 0):=(mcell m8 3);have x4:w8.cell? ⟨mb,4,none⟩=some (.slice none 0 0):=(mcell m8 4);have f3:=mfz m8 3;have f4:=mfz m8 4;have hml:=(World.block_lt_of_cell? w8 _ x3);have z4:=c4n (v:= .slice (some ⟨pr,0,none⟩) P P) (o:= .cells mc 130) hml x4 f4;have n1: ¬mb=cb:=(by omega);have n2: ¬cb=mb:=(by omega);have n3: ¬mb=w8.heap.size:=(by have:=HS6.out;omega);have n4: ¬cb=w8.heap.size:=(by have:=HS6.out;omega);have z4a:=z4.1;have z4b:=z4.2;have HM8:=veil m8;clear r1 r2 b1 s8 hc8 m8 z4)
 go_ret
 obtain⟨WF,hWF⟩: ∃WF,((w8.setCell ⟨mb,3,none⟩ (.slice (some ⟨pr,0,none⟩) P P)).setCell ⟨mb,4,none⟩ (.slice (some ⟨w8.heap.size,0,none⟩) n n)).alloc (.cells mc 130)=WF:=⟨_,rfl⟩
 have sX:((w8.setCell ⟨mb,3,none⟩ (.slice (some ⟨pr,0,none⟩) P P)).setCell ⟨mb,4,none⟩ (.slice (some ⟨w8.heap.size,0,none⟩) n n)).heap.size=w8.heap.size:=by simp
 have sF:WF.heap.size=w8.heap.size+1:=by rw[←hWF];simp
 have kX: ∀k,k<w8.heap.size→WF.heap[k]? =((w8.setCell ⟨mb,3,none⟩ (.slice (some ⟨pr,0,none⟩) P P)).setCell ⟨mb,4,none⟩ (.slice (some ⟨w8.heap.size,0,none⟩) n n)).heap[k]? :=fun k hk=>by rw[←hWF];exact Below.heap_alloc _ _ _ (by rw[sX];exact hk)
 have k8: ∀k,k<w8.heap.size→k≠mb→WF.heap[k]? =w8.heap[k]? :=fun k hk hn=>by
  rw[kX k hk,Below.heap_setCell _ _ _ _ hn,Below.heap_setCell _ _ _ _ hn]
 have cX: ∀o,WF.cell? ⟨mb,o,none⟩=((w8.setCell ⟨mb,3,none⟩ (.slice (some ⟨pr,0,none⟩) P P)).setCell ⟨mb,4,none⟩ (.slice (some ⟨w8.heap.size,0,none⟩) n n)).cell? ⟨mb,o,none⟩:=fun o=>World.cell?_of_block (kX mb hml)
 have cO: ∀o,o≠3→o≠4→WF.cell? ⟨mb,o,none⟩=w8.cell? ⟨mb,o,none⟩:=fun o h3 h4=>by
  rw[cX o,cfar _ (fun e=>h4 e.symm),cfar _ (fun e=>h3 e.symm)]
 have q3:WF.cell? ⟨mb,3,none⟩=some (.slice (some ⟨pr,0,none⟩) P P):=by
  rw[cX 3,cfar _ (by decide)]
  exact Gt.set_same _ _ _ _ x3
 have q4:WF.cell? ⟨mb,4,none⟩=some (.slice (some ⟨w8.heap.size,0,none⟩) n n):=by
  rw[cX 4]
  exact Gt.set_same _ _ _ _ ((cfar w8 (by decide)).trans x4)
 have qf: ∀o,WF.frozen? ⟨mb,o,none⟩=false:=fun o=>by
  rw[World.frozen?_of_block (kX mb hml),frozen_set,frozen_set]
  exact mfz HM8.out o
 have hs6:=HS6.out
 have hs8:=HS8.out
 have hd8:=HD8.out
 have hmb:=HMB.out
 have b5F:Below w5.heap.size w5 WF:=by
  rw[hmb,←hWF]
  have b8:=HB6.out.trans ((HB8.out).mono (by omega))
  exact(bset (bset b8 (a:=⟨mb,3,none⟩) lzr _) (a:=⟨mb,4,none⟩) lzr _).alloc (by rw[sX];omega) _
 have b4F:=bt HL5.out b5F
 have b3F:=bt HL4.out b4F
 have b2F:=bt HL3.out b3F
 have b1F:=bt HL2.out b2F
 have b0F:=bt HL1.out b1F
 have z1:=HL1.out.size
 have z2:=HL2.out.size
 have z3:=HL3.out.size
 have z4:=HL4.out.size
 have z5:=HL5.out.size
 have hz0:=HT0.out.pos
 have hcO: ∀o u,o≠3→o≠4→(#[.int .u64 (qu:Int),.int .u64 (ag:Int),.slice none 0 0,.slice none 0 0,.slice none 0 0,.pointer (some ⟨tb,0,none⟩),.pointer (some ⟨sb,0,none⟩),.pointer (some ⟨gb,0,none⟩),.pointer (some ⟨pb,0,none⟩),.pointer (some ⟨wb,0,none⟩)]:Array Value)[o]? =some u→WF.cell? ⟨mb,o,none⟩=some u:=fun o u h3 h4 hu=>by
  rw[cO o h3 h4,mcell HM8.out o]
  exact hu
 have hPt:Parts WF ⟨mb,tb,tg,sb,gb,pb,wb,wg,wm,pr,w8.heap.size,P,n⟩ P n q m qu ag W0.heap.size w1.heap.size w2.heap.size w3.heap.size w4.heap.size w5.heap.size:=by
  refine⟨hP,hn,⟨hqu.2,hag.2⟩,⟨z1,z2,z3,z4,z5⟩,hz0,HT0.out.below b0F,HR1.out.below b1F,HD1.out,⟨_,HR2.out.frame (ofBelow (S:=fun _=>False) b2F).cb (fun q=>q) (fun k hk=>by cases hk)⟩,HD2.out,⟨_,_,HR3.out.below b3F,HD3.out⟩,⟨_,HR4.out.below b4F,HD4.out⟩,HR5.out.frame (ofBelow (S:=fun _=>False) b5F).wh (fun _ _ q=>q),HD5.out,⟨by show w5.heap.size≤mb;omega,by show w5.heap.size≤pr;omega,by show w5.heap.size≤w8.heap.size;omega⟩,⟨by show mb≠pr;omega,by show mb≠w8.heap.size;omega,by show pr≠w8.heap.size;omega⟩,⟨by show mb<WF.heap.size;omega,by show pr<WF.heap.size;omega,by show w8.heap.size<WF.heap.size;omega,by omega⟩,?_,hcO 2 _ (by decide) (by decide) rfl,?_,?_⟩
  ·exact⟨hcO 0 _ (by decide) (by decide) rfl,hcO 1 _ (by decide) (by decide) rfl,q3,q4,hcO 5 _ (by decide) (by decide) rfl,hcO 6 _ (by decide) (by decide) rfl,hcO 7 _ (by decide) (by decide) rfl,hcO 8 _ (by decide) (by decide) rfl,hcO 9 _ (by decide) (by decide) rfl,qf⟩
  ·have hk:=k8 pr (by omega) (by omega)
   exact⟨fun i hi=>(HR8.out.at_ i hi).kept hk,fun o=>(World.frozen?_of_block hk).trans (HR8.out.fz o),HR8.out.ok⟩
  ·refine Ths.made ?_
   rw[HMC.out,←hWF]
   have:=World.alloc_heap_new ((w8.setCell ⟨mb,3,none⟩ (.slice (some ⟨pr,0,none⟩) P P)).setCell ⟨mb,4,none⟩ (.slice (some ⟨w8.heap.size,0,none⟩) n n)) (.cells mc 130)
   rw[sX] at this
   exact this
 obtain⟨p1,p2⟩:=hPt.is
 rw[hWF]
 exact⟨_,_,rfl,p1,fun k hk=>Nat.le_trans HB0.out.size (p2 k hk),bt HB0.out b0F⟩
section
variable {w w':World} {lab lab':Nat→Nat} {a:Ad} {P n q T:Nat} {M:Mc}
theorem Rt_le {len:Nat} {O R:Nat→Int} (h:Ex.Rt len O R):1≤len∧len≤64:=by
 obtain⟨y,h⟩:=h
 rcases h with ⟨_,e,_⟩|⟨_,_,j,_,_,_,e,_⟩|⟨_,_,_,_,_,e,_⟩|⟨h1,h2,_⟩
 ·cases e
 ·cases e
 ·cases e
 omega
theorem infoPr:(Tryz.prog.info? 35).map (fun i=>(i.zero,i.size,i.bytes))=some (some (.slice none 0 0),1,24):=by rfl
theorem IsMc.load_bad (h:IsMc w lab a P n q T M) (ap:Option Addr) (len cap:Nat) (hlen:len<9223372036854775808) (O R:Nat→Int) (hp:Ex.Prg w ap len O R) {x y:Int} (hc:Ex.Chk len O R x y) (hx:x≠0):
  vQ 18 #[vPt a.m,.slice ap len cap] w (.tuple #[vI6 0,vI6 x]):=by
 have HK:=veil (Ex.check_known w ap len cap hlen O R hp x y hc)
 have hxb:(x !=0)=true:=by grind
 clear h hp hc
 refine ge ?_
 go_wp2_with (go_at_call 51;refine cH HK.out fun w1 HB=> ?_)
 go_ret2
 exact⟨rfl,HB.out⟩
theorem IsMc.load_full (h:IsMc w lab a P n q T M) (ap:Option Addr) (len cap:Nat) (O R:Nat→Int) (hp:Ex.Prg w ap len O R) (hr:Ex.Rt len O R) (hf:M.pr.length=16):
  vQ 18 #[vPt a.m,.slice ap len cap] w (.tuple #[vI6 0,vI6 4]):=by
 obtain⟨y,hc⟩:=hr
 have HK:=veil (Ex.check_known w ap len cap (by have:=Rt_le ⟨y,hc⟩;omega) O R hp 0 y hc)
 obtain⟨v,vs,e2,hps⟩:=h.pg
 obtain⟨ad,cp,rfl⟩:=hps.form
 rw[hf] at e2
 have HC:=veil fun V (hb:vBw w V)=>kc hb e2
 clear h hp hc hps e2
 refine ge ?_
 go_wp2_with (go_at_call 51;refine(HK.out).mono ?_;rintro e w1 ⟨rfl,hb⟩;have HB:=veil hb;have hc1:=HC.out _ hb;clear hb)
 go_ret2
 exact⟨rfl,HB.out⟩
theorem IsMc.load_yes (h : IsMc w lab a P n q T M) (ap : Option Addr) (len cap : Nat) (O R : Nat → Int) (hp : Ex.Prg w ap len O R) (hr : Ex.Rt len O R) (hf : M.pr.length < 16) :
  vCa 18 #[vPt a.m, .slice ap len cap] w fun e w' => e = vRt #[vI6 (M.pr.length : Int), vI6 0] ∧ Goes w w' lab a P n q T { M with pr := M.pr ++ [⟨len, O, R⟩] } := by
 have hle := Rt_le hr
 obtain ⟨i0, hi0, hz0, hz1, hz2⟩ := Cb.info_parts infoPr
 obtain ⟨y, hc⟩ := hr
 have HK := veil (Ex.check_known w ap len cap (by omega) O R hp 0 y hc)
 have HM1 : Hid (∀ V, vBw w V → ∃ ad cp vs, V.cell? (vAt a.m 2) = some (.slice ad M.pr.length cp) ∧ Prs V lab (.slice ad M.pr.length cp) M.pr vs ∧ IsMc V lab a P n q T M ∧ Ex.Prg V ap len O R) := fun V hb => by
  obtain ⟨v, vs, e2, hps⟩ := (h.below hb).pg
  obtain ⟨ad, cp, rfl⟩ := hps.form
  exact ⟨ad, cp, vs, e2, hps, h.below hb, hp.below hb⟩
 have HR := veil (show Ex.Rt len O R from ⟨y, hc⟩)
 clear h hp hc
 have hf' : ((M.pr.length : Int) == 16) = false := by grind
 have hf2 : M.pr.length ≠ 16 := by omega
 have HLE := veil hle
 refine ge ?_
 go_wp2_with (go_at_call 51; refine (HK.out).mono ?_; rintro e w1 ⟨rfl, hb⟩; have HB := veil hb; obtain ⟨ad, cp, vs, e2, hps, hi1, hpr1⟩ := HM1.out _ hb; have HPS := veil hps; have HI1 := veil hi1; have HPR := veil hpr1; have HE2 := veil e2; clear hb hps hi1 hpr1)
 have HCL : Hid (∀ V, lk w1 V → vCa 52 #[.slice ap len cap] V fun e w' => ∃ a1 d1, e = .returned (.slice a1 len d1) ∧ w'.ownsRow w1.heap.size 83 2 (.slice a1 len d1) len (Ex.pcells O R len) ∧ vBw w1 w') := fun V hl => by
  refine (clone_prg V ap len cap O R (HPR.out.below (hl.bel bzR)) HLE.out.1 HLE.out.2).mono ?_
  rintro e w' ⟨v', rfl, ho, hb⟩
  obtain ⟨a1, d1, rfl⟩ := Cb.owns_slice ho
  rw [hl.1] at ho
  exact ⟨a1, d1, rfl, ho, hl.bel hb⟩
 have HAP : Hid (∀ (w2 : World) (a1 : Option Addr) (d1 : Nat), vBw w1 w2 → Hid ((w2.alloc (.cells #[.slice a1 len d1] 35)).ownsRow 0 35 1 (.slice ad M.pr.length cp) M.pr.length vs) ∧ Hid (∀ j u, ([.slice a1 len d1] : List Value)[j]? = some u → (w2.alloc (.cells #[.slice a1 len d1] 35)).cell? (((vA0 w2.heap.size) : Addr).add j) = some u)) := fun w2 a1 d1 hb => by
  refine ⟨row_keptF HPS.out.row (fun k hk => ?_), fun j u hu => ?_⟩
  ·exact (bt hb ((Below.refl w2.heap.size w2).alloc lzr _)).block k (ownsRow_blk HPS.out.row hk).2.1
  ·match j, hu with
   | 0, hu => injection hu with hu; subst hu; exact newc _ _ _ 0 _ rfl
 clear HM1 HK
 refine wp_region_held_drew (S := fun _ => True) (by rfl) ?_ (fun hHeld => ?_)
 ·trivial
 refine st ?_
 repeat' first
  | refine dn ?_
  | refine tk ?_
  | refine rd ?_
  | exact opZ
  | refine opN ?_
  | refine opS ?_ ?_
  | (refine opY 6 (fun K hK => ?_)
     go_simp
     go_at_call 52
     refine (HCL.out _ (by exact ⟨rfl, rfl, rfl, rfl⟩)).mono ?_
     rintro e w2 ⟨a1, d1, rfl, ho1, hb2⟩
     have HO1 := veil ho1
     have HB2 := veil hb2
     have k2 := kc hb2 HE2.out
     have k3 := fun o => kc (bt hb2 ((Below.refl w2.heap.size w2).alloc lzr o)) HE2.out
     clear ho1 hb2
     refine hK.out _ _ ?_ (fun hHeld => ?_)
     ·trivial
     clear hK K
     try simp only [puX])
  | (refine opY 8 (fun K hK => ?_)
     obtain ⟨HOW, HNW⟩ := HAP.out w2 a1 d1 HB2.out
     refine step_append_ev _ (by rfl) _ _ _ (by rfl) 0 35 i0 (.slice none 0 0) 1 24 Tryz.underlying102 hi0 hz0 hz1 hz2 rfl (by omega) (.slice ad M.pr.length cp) M.pr.length vs (by rfl) HOW.out (vA0 w2.heap.size) 1 1 [.slice a1 len d1] (by rfl) rfl HNW.out (by intro u hu; simp at hu; subst hu; rfl) (by unfold maxLen; omega) (by omega) (Nat.zero_le _) ?_
     intro v1 w3 ho3 hg3 hat3
     obtain ⟨y1, y2, hgo⟩ := HI1.out.loaded HE2.out HPS.out (bt HB2.out ((Below.refl w2.heap.size w2).alloc lzr (.cells #[.slice a1 len d1] 35))) (p := ⟨len, O, R⟩) (u := .slice a1 len d1) (row_keptF HO1.out (fun k hk => Below.heap_alloc _ _ _ (ownsRow_blk HO1.out hk).2.1)) HR.out ho3 hg3 hat3
     obtain ⟨a3, d3, rfl⟩ := Cb.owns_slice ho3
     have HGO := veil hgo
     have y5 := Gt.set_same w3 (vAt a.m 2) (.slice a3 (M.pr.length + 1) d3) _ y1
     clear hgo ho3 hg3 hat3 HOW HNW
     refine hK.out _ _ ?_ (fun hHeld => ?_)
     ·trivial
     clear hK K
     try simp only [puX])
  | (refine opY _ (fun K hK => ?_)
     go_simp
     refine hK.out _ _ ?_ (fun hHeld => ?_)
     ·trivial
     clear hK K
     try simp only [puX])
 all_goals
  refine ⟨?_⟩
  go_wp2
  go_ret2
  exact ⟨by simp, Goes.ahead HB.out HGO.out⟩
end
end Go.Proofs.YtnmhcgpnhlhcgaaGreatDoor

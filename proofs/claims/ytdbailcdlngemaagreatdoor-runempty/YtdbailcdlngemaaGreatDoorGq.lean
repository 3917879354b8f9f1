/- YtdbailcdlngemaaGreatDoorGq: of the texts Ba13 Ba14 Ba15 Ba16 Ba17 Ba18 Ba19 Ba20 Ba21 Ba22 Ba23 Ba24 Ba25 Ba26 Ba27 Ba28 Ba29 Ba30 Ba31 Ba32 Ba33 Ba34 Ba35 what is wanted. -/
import Derived.Test.YtdbailcdlngemaaGreatDoorG0
import Derived.Test.YtdbailcdlngemaaGreatDoorGp
import Derived.OrdersHeld
import Derived.Defers
import Derived.Recover
import Derived.Laws.Pointers
import Derived.Laws.CopyOwn
import Derived.Laws.Tables
import Derived.Deep.AppendLies
import Derived.Test.YtdbailcdlngemaaGreatDoorGk
set_option maxHeartbeats 16000000
set_option maxRecDepth 100000
set_option linter.unusedVariables false
set_option linter.unusedSimpArgs false
namespace Go.Proofs.YtdbailcdlngemaaGreatDoor
open Go.RowKit
theorem bM {P:Program} (w:World) {ops:Array Oper} {o:Oper} {a:Act} {K:Act→World→Prop} {Q:Exit→Act→World→Prop} {E:Prop} (hgd:o.guard=none) (s x:Operand) (t:TypeId)
  (ho:o.op= .call {callee:= .builtin .append,args:= #[s,x],argTypes:= #[t,t]})
  (base:Nat) (e:TypeId) (i:TypeInfo) (z:Value) (size bytes:Nat) (ht:P.underlying t=some (.slice e)) (hi:P.info? e=some i) (hz:i.zero=some z)
  (hsize:i.size=size) (hby:i.bytes=bytes) (hzs:z.cells.size=size) (hsz:0<size)
  (v:Value) (n:Nat) (xs:List Value) (hs:a.eval s=v) (hown:w.ownsRow base e size v n xs)
  (ad:Addr) (m c:Nat) (news:List Value) (hx:a.eval x= .slice (some ad) m c) (hl:news.length=m*size) (hnews: ∀j u,news[j]? =some u→w.cell? (ad.add j)=some u) (h1: ∀u∈news,u.oneCell'=true)
  (h63:n+m≤maxLen) (hbytes:(n+m)*bytes≤140737488355328) (hbase:base≤w.heap.size)
  (h: ∀v' w',w'.ownsRow base e size v' (n+m) (xs++news)→w.grownBy w' v.ownBlock→(v'.ownBlock=v.ownBlock∨v'.ownBlock=some w.heap.size)→K (a.put o.dst v') w'):
  if Region.wanted o (yielded ops a.tmps)=true then Oper.wp P o a w K Q else E:=by
 have hw:Region.wanted o (yielded ops a.tmps)=true:=by simp[Region.wanted,hgd]
 rw[if_pos hw]
 obtain⟨v',w',hr,h2,h3,h4,h5⟩:=run_append_own_at (P:=P) w base t o.type e i z size bytes ht hi hz hsize hby hzs hsz v n xs hown ad m c news hl hnews h1 h63 hbytes hbase
 unfold Oper.wp execOp
 simp only[ho,resolve,invoke,builtin,Sem.run_bind,Sem.run_pure,Result.andThen_ok,List.map_toArray,List.map_cons,List.map_nil,hs,hx,hr]
 exact h v' w' h2 h3 h5
structure Sp (w W:World) (lab labk:Nat→Nat) (a:Ad) (P n q T:Nat) (M:Mc) (sb pr:Nat) (l:List Ev) (v:Value):Prop where
 at_:At w W lab labk a P n q T M
 c0:W.cell? ⟨sb,0,none⟩=some (.pointer (some ⟨a.m,0,none⟩))
 c1:W.cell? ⟨sb,1,none⟩=some (.int .i64 (pr:Int))
 c2:W.cell? ⟨sb,2,none⟩=some (.pointer (some ⟨a.pr,pr*3,none⟩))
 c3:W.cell? ⟨sb,3,none⟩=some v
 hv:gL W w.heap.size v l
 hk: ∀k,v.ownBlock=some k→labk k=0∧k≠sb
 fz: ∀o,W.frozen? ⟨sb,o,none⟩=false
 ls:labk sb=0
 ws:w.heap.size≤sb
section
variable {w W W':World} {lab labk:Nat→Nat} {a:Ad} {P n q T T':Nat} {M M':Mc} {sb pr:Nat} {l:List Ev}
theorem gL.lt {base:Nat} {v:Value} (h:gL W base v l) {k:Nat} (hk:v.ownBlock=some k):k<W.heap.size∧base≤k:=by
 obtain⟨h1,⟨hv,_⟩|⟨g,cap,cells,hv,h3,h4,h5⟩⟩:=h
 ·rw[hv] at hk;cases hk
 ·rw[hv] at hk
  injection hk with hk
  rw[←hk]
  exact⟨(Array.getElem?_eq_some_iff.1 h4).1,h3⟩
variable {v:Value} {O O0:Nat→Prop} {W0:World}
theorem Sp.lt (h:Sp w W lab labk a P n q T M sb pr l v):sb<W.heap.size:=World.block_lt_of_cell? W _ h.c0
theorem Sp.keep (h:Sp w W lab labk a P n q T M sb pr l v) {lab':Nat→Nat} (A:At w W' lab lab' a P n q T' M') (ho: ∀b,b<W.heap.size→lab' b=labk b) (hb: ∀b,b<W.heap.size→labk b=0→W'.heap[b]? =W.heap[b]?):Sp w W' lab lab' a P n q T' M' sb pr l v:=by
 have e:=hb sb h.lt h.ls
 have ec: ∀o,W'.cell? ⟨sb,o,none⟩=W.cell? ⟨sb,o,none⟩:=fun _=>World.cell?_of_block e
 exact⟨A,(ec _).trans h.c0,(ec _).trans h.c1,(ec _).trans h.c2,(ec _).trans h.c3,aN h.hv (fun k q=>hb k (h.hv.lt q).1 (h.hk k q).1),fun k q=>⟨(ho k (h.hv.lt q).1).trans (h.hk k q).1,(h.hk k q).2⟩,fun o=>(World.frozen?_of_block e).trans (h.fz o),(ho sb h.lt).trans h.ls,h.ws⟩
theorem Sp.below (h:Sp w W lab labk a P n q T M sb pr l v) (hb:Below W.heap.size W W'):Sp w W' lab labk a P n q T M sb pr l v:=
 h.keep (h.at_.below hb) (fun _ _=>rfl) (fun b hlt _=>hb.block b hlt)
def SG (w W:World) (lab:Nat→Nat) (a:Ad) (P n q T:Nat) (M:Mc) (sb pr:Nat) (l:List Ev) (O:Nat→Prop):Prop:= ∃labk v,Sp w W lab labk a P n q T M sb pr l v∧ ∀k,O k↔(labk k≠0∨k=sb∨v.ownBlock=some k)
def SX (w W0 W:World) (lab:Nat→Nat) (a:Ad) (P n q T:Nat) (M:Mc) (sb pr:Nat) (l:List Ev) (O0:Nat→Prop):Prop:= ∃O,SG w W lab a P n q T M sb pr l O∧Fr O0 W0 W∧ ∀k,k<W0.heap.size→O k→O0 k
theorem SG.sx (h:SG w W lab a P n q T M sb pr l O):SX w W W lab a P n q T M sb pr l O:=⟨O,h,Fr.refl _ _,fun _ _ q=>q⟩
theorem SG.below (h:SG w W lab a P n q T M sb pr l O) (hb:Below W.heap.size W W'):SG w W' lab a P n q T M sb pr l O:=by
 obtain⟨k,v,s,ho⟩:=h
 exact⟨k,v,s.below hb,ho⟩
theorem SG.lt (h:SG w W lab a P n q T M sb pr l O) {k:Nat} (hk:O k):k<W.heap.size:=by
 obtain⟨k',v,s,ho⟩:=h
 rcases(ho k).1 hk with q|q|q
 ·exact s.at_.i.lt k q
 ·rw[q];exact s.lt
 ·exact(s.hv.lt q).1
theorem SX.call (h:SX w W0 W lab a P n q T M sb pr l O0) {f:Nat} {args:Array Value} {R:Ending→Prop} {l':List Ev} (hc: ∀O,SG w W lab a P n q T M sb pr l O→Calls Tryz.prog f args W fun e w'=>R e∧SX w W w' lab a P n q T' M' sb pr l' O):Calls Tryz.prog f args W fun e w'=>R e∧SX w W0 w' lab a P n q T' M' sb pr l' O0:=by
 obtain⟨O,hs,hf,ho⟩:=h
 refine(hc O hs).mono ?_
 rintro e w' ⟨hr,O2,hs2,hf2,ho2⟩
 exact⟨hr,O2,hs2,hf.then hf2 (fun k hk q=>ho k hk q),fun k hk q=>ho k hk (ho2 k (Nat.lt_of_lt_of_le hk hf.size) q)⟩
theorem SG.goes (h:SG w W lab a P n q T M sb pr l O) (g: ∀labk,aD W labk a P n q T M→ay W W' labk a P n q T' M'):SX w W W' lab a P n q T' M' sb pr l O:=by
 obtain⟨k,v,s,ho⟩:=h
 obtain⟨lab',A,hl,hf⟩:=s.at_.step (g k s.at_.i)
 refine⟨_,⟨lab',v,s.keep A hl (fun b hb hl=>hf.box hl hb),fun _=>Iff.rfl⟩,hf.to (fun k _ q=>(ho k).2 (.inl q)),fun k hk q=>(ho k).2 ?_⟩
 rcases q with q|q
 ·exact .inl (by rw[←hl k hk];exact q)
 ·exact .inr q
theorem SG.lift (h:SG w W lab a P n q T M sb pr l O) {f:Nat} {args:Array Value} {R:Ending→Prop} (hc: ∀labk,aD W labk a P n q T M→Calls Tryz.prog f args W fun e w'=>R e∧ay W w' labk a P n q T' M'):Calls Tryz.prog f args W fun e w'=>R e∧SX w W w' lab a P n q T' M' sb pr l O:=by
 obtain⟨k,v,s,ho⟩:=id h
 refine(hc k s.at_.i).mono ?_
 rintro e w' ⟨hr,g⟩
 refine⟨hr,?_⟩
 obtain⟨lab',A,hl,hf⟩:=s.at_.step g
 refine⟨_,⟨lab',v,s.keep A hl (fun b hb hl=>hf.box hl hb),fun _=>Iff.rfl⟩,hf.to (fun k _ q=>(ho k).2 (.inl q)),fun k hk q=>(ho k).2 ?_⟩
 rcases q with q|q
 ·exact .inl (by rw[←hl k hk];exact q)
 ·exact .inr q
theorem SX.lift (h:SX w W0 W lab a P n q T M sb pr l O0) {f:Nat} {args:Array Value} {R:Ending→Prop} (hc: ∀labk,aD W labk a P n q T M→Calls Tryz.prog f args W fun e w'=>R e∧ay W w' labk a P n q T' M'):Calls Tryz.prog f args W fun e w'=>R e∧SX w W0 w' lab a P n q T' M' sb pr l O0:=h.call fun _ s=>s.lift hc
theorem SX.goes (h:SX w W0 W lab a P n q T M sb pr l O0) (g: ∀labk,aD W labk a P n q T M→ay W W' labk a P n q T' M'):SX w W0 W' lab a P n q T' M' sb pr l O0:=by
 obtain⟨O,hs,hf,ho⟩:=h
 obtain⟨O2,hs2,hf2,ho2⟩:=hs.goes g
 exact⟨O2,hs2,hf.then hf2 (fun k hk q=>ho k hk q),fun k hk q=>ho k hk (ho2 k (Nat.lt_of_lt_of_le hk hf.size) q)⟩
theorem SX.more (h:SX w W0 W lab a P n q T M sb pr l O0) (hb:Below W.heap.size W W'):SX w W0 W' lab a P n q T M sb pr l O0:=by
 obtain⟨O,hs,hf,ho⟩:=h
 exact⟨O,hs.below hb,hf.then (dh (S:=fun _=>False) hb) (fun _ _ q=>q.elim),ho⟩
theorem SX.ahead {W1:World} (h:SX w W1 W lab a P n q T M sb pr l O0) (hb:Below W0.heap.size W0 W1):SX w W0 W lab a P n q T M sb pr l O0:=by
 obtain⟨O,hs,hf,ho⟩:=h
 exact⟨O,hs,(dh hb).then hf (fun _ _ q=>q),fun k hk q=>ho k (Nat.lt_of_lt_of_le hk hb.size) q⟩
theorem SX.F3 (h:SX w W0 W lab a P n q T M sb pr l O0) {f:Nat} {args:Array Value} {R:Ending→Prop} (hc: ∀labk,aD W labk a P n q T M→Calls Tryz.prog f args W fun e w'=>R e∧Below W.heap.size W w'):Calls Tryz.prog f args W fun e w'=>R e∧SX w W0 w' lab a P n q T M sb pr l O0:=by
 obtain⟨O,⟨k,v,s,_⟩,_,_⟩:=id h
 exact(hc k s.at_.i).mono (fun _ _ ⟨e,g⟩=>⟨e,h.more g⟩)
theorem SX.pn (h:SX w W0 W lab a P n q T M sb pr l O0) (e1:W'.heap=W.heap) (e2:W'.os=W.os) (e3:W'.tape=W.tape) (e4:W'.output=W.output):SX w W0 W' lab a P n q T M sb pr l O0:=
 h.more (aQ (Below.refl _ _) e1 e2 e3 e4)
theorem SX.sp (h:SX w W0 W lab a P n q T M sb pr l O0): ∃labk v,Sp w W lab labk a P n q T M sb pr l v:=by
 obtain⟨O,⟨k,v,s,_⟩,_,_⟩:=h
 exact⟨k,v,s⟩
theorem SX.c0 (h:SX w W0 W lab a P n q T M sb pr l O0):W.cell? ⟨sb,0,none⟩=some (.pointer (some ⟨a.m,0,none⟩)):=by obtain⟨k,v,s⟩:=h.sp;exact s.c0
theorem SX.c1 (h:SX w W0 W lab a P n q T M sb pr l O0):W.cell? ⟨sb,1,none⟩=some (.int .i64 (pr:Int)):=by obtain⟨k,v,s⟩:=h.sp;exact s.c1
theorem SX.c2 (h:SX w W0 W lab a P n q T M sb pr l O0):W.cell? ⟨sb,2,none⟩=some (.pointer (some ⟨a.pr,pr*3,none⟩)):=by obtain⟨k,v,s⟩:=h.sp;exact s.c2
theorem SX.i (h:SX w W0 W lab a P n q T M sb pr l O0): ∃labk,aD W labk a P n q T M:=by obtain⟨k,v,s⟩:=h.sp;exact⟨k,s.at_.i⟩
theorem SX.core (h:SX w W0 W lab a P n q T M sb pr l O0):Core W a P n M.qu M.ag:=by obtain⟨k,i⟩:=h.i;exact i.co
theorem SX.pc (h:SX w W0 W lab a P n q T M sb pr l O0) (hp:pr<P):fM W a.pr (pr*3) (M.pc pr):=by obtain⟨k,i⟩:=h.i;exact i.pc.at_ pr hp
theorem SX.lM (h:SX w W0 W lab a P n q T M sb pr l O0) (o:Nat):W.frozen? ⟨a.pr,o,none⟩=false:=by obtain⟨k,i⟩:=h.i;exact i.pc.fz o
theorem SX.tr (h:SX w W0 W lab a P n q T M sb pr l O0) {x:Nat} (hx:x<n):bo W a.th (x*10) (M.th x):=by obtain⟨k,i⟩:=h.i;exact i.th.at_ x hx
theorem SX.tok (h:SX w W0 W lab a P n q T M sb pr l O0) {x:Nat} (hx:x<n):(M.th x).ok:=by obtain⟨k,i⟩:=h.i;exact i.th.ok x hx
theorem SX.GZ (h:SX w W0 W lab a P n q T M sb pr l O0) (o:Nat):W.frozen? ⟨a.th,o,none⟩=false:=by obtain⟨k,i⟩:=h.i;exact i.th.fz o
theorem zq:(Tryz.prog.info? 62).map (fun i=>(i.zero,i.size,i.bytes))=some (some (.agg #[.int .i64 0,.int .i64 0,.int .i64 0,.int .u32 0,.int .i64 0,.int .i64 0]),6,48):=by kernel_rfl
theorem kE (v:Ev): ∀u∈fC v,u.oneCell'=true:=by
 intro u hu
 simp[fC] at hu
 rcases hu with rfl|rfl|rfl|rfl|rfl|rfl<;>rfl
theorem qU (l:List Ev): ∀u∈bW l,u.oneCell'=true:=by
 intro u hu
 obtain⟨v,_,hv⟩:=List.mem_flatMap.1 hu
 exact kE v u hv
theorem pH (l:List Ev) (v:Ev):bW (l++[v])=bW l++fC v:=by simp[bW]
theorem Sp.told (h:Sp w W lab labk a P n q T M sb pr l v) {v1:Value} {w1:World} {ev:Ev} (ho:w1.ownsRow w.heap.size 62 6 v1 (l.length+1) (bW l++fC ev)) (hg:W.grownBy w1 v.ownBlock) (hat:v1.ownBlock=v.ownBlock∨v1.ownBlock=some W.heap.size):(∀O,(∀k,O k↔(labk k≠0∨k=sb∨v.ownBlock=some k))→SX w W (w1.setCell ⟨sb,3,none⟩ v1) lab a P n q T M sb pr (l++[ev]) O)∧w1.cell? ⟨sb,3,none⟩=some v∧w1.frozen? ⟨sb,3,none⟩=false:=by
 have c3:=h.c3
 have hv:=h.hv
 have hk:=h.hk
 have hbl: ∀b,b<W.heap.size→v.ownBlock≠some b→w1.heap[b]? =W.heap[b]? :=fun b hb hn=>hg.block b hb (fun e=>hn e.symm)
 have hsb:=hbl sb h.lt (fun e=>(hk sb e).2 rfl)
 have hset: ∀b,b≠sb→(w1.setCell ⟨sb,3,none⟩ v1).heap[b]? =w1.heap[b]? :=fun b hb=>Below.heap_setCell _ _ _ _ hb
 have hf1:Fr (fun k=>labk k=0∧w.heap.size≤k) W (w1.setCell ⟨sb,3,none⟩ v1):=by
  refine⟨hg.os,hg.tape,hg.output,by simpa using hg.size,fun k hkl hn=> ?_⟩
  have h1:k≠sb:=fun e=>hn (by rw[e];exact⟨h.ls,h.ws⟩)
  rw[hset k h1]
  exact hbl k hkl (fun e=>hn ⟨(hk k e).1,(hv.lt e).2⟩)
 have hz:=h.at_.z
 have hi:aD (w1.setCell ⟨sb,3,none⟩ v1) labk a P n q T M:=h.at_.i.frame hf1 (fun k hk q=>hk q.1) (fun q=>by omega)
 have A:At w (w1.setCell ⟨sb,3,none⟩ v1) lab labk a P n q T M:=⟨hi,⟨h.at_.l.old,hi.lt⟩,h.at_.f.then hf1 (fun k hk q=>by omega),hz⟩
 have ec: ∀o,o≠3→(w1.setCell ⟨sb,3,none⟩ v1).cell? ⟨sb,o,none⟩=W.cell? ⟨sb,o,none⟩:=fun o ho=>(aw w1 (fun e=>ho e.symm)).trans (World.cell?_of_block hsb)
 have c31:w1.cell? ⟨sb,3,none⟩=some v:=(World.cell?_of_block hsb).trans c3
 have f31: ∀o,w1.frozen? ⟨sb,o,none⟩=false:=fun o=>(World.frozen?_of_block hsb).trans (h.fz o)
 have hne: ∀k,v1.ownBlock=some k→labk k=0∧k≠sb:=fun k e=>by
  rcases hat with q|q
  ·exact hk k (q▸e)
  ·rw[q] at e
   injection e with e
   rw[←e]
   exact⟨h.at_.fresh (Nat.le_refl _),by have:=h.lt;omega⟩
 have hev:gL (w1.setCell ⟨sb,3,none⟩ v1) w.heap.size v1 (l++[ev]):=by
  unfold gL
  rw[pH,List.length_append]
  exact aN ho (fun k e=>hset k (hne k e).2)
 have hF:Fr (fun k=>k=sb∨v.ownBlock=some k) W (w1.setCell ⟨sb,3,none⟩ v1):=by
  refine⟨hg.os,hg.tape,hg.output,by simpa using hg.size,fun k hkl hn=> ?_⟩
  rw[hset k (fun e=>hn (.inl e))]
  exact hbl k hkl (fun e=>hn (.inr e))
 refine⟨fun O hO=>⟨_,⟨labk,v1,⟨A,(ec 0 (by decide)).trans h.c0,(ec 1 (by decide)).trans h.c1,(ec 2 (by decide)).trans h.c2,Gt.au _ _ _ _ c31,hev,hne,fun o=>by rw[aM];exact f31 o,h.ls,h.ws⟩,fun _=>Iff.rfl⟩,hF.to (fun k _ q=>(hO k).2 (.inr q)),fun k hk q=>(hO k).2 ?_⟩,c31,f31 3⟩
 rcases q with q|q|q
 ·exact .inl q
 ·exact .inr (.inl q)
 ·rcases hat with e|e
  ·exact .inr (.inr (e▸q))
  ·rw[e] at q
   injection q with q
   omega
end
section
variable {w W W':World} {lab labk:Nat→Nat} {a:Ad} {P n q T T':Nat} {M M':Mc} {sb pr:Nat} {l:List Ev} {v:Value} {O O0:Nat→Prop} {W0:World}
theorem SG.tell (h:SG w W lab a P n q T M sb pr l O) (hl:l.length≤10000) (kd:Int) (x:Int) (g:Nat) (ar:Int):
  Calls Tryz.prog 102 #[.pointer (some ⟨sb,0,none⟩),.int .i64 kd,.agg #[.int .i64 x,.int .u32 (g:Int)],.int .i64 ar] W fun e w'=>e= .returned (.tuple #[])∧SX w W w' lab a P n q T M sb pr (l++[⟨kd,(pr:Int),x,g,ar,0⟩]) O:=by
 obtain⟨labk,v,hs,hO⟩:=h
 have hb0:Below W.heap.size W (W.alloc (.cells #[.int .i64 x,.int .u32 (g:Int)] 60)):=(Below.refl _ _).alloc (Nat.le_refl _) _
 have s0:=hs.below hb0
 have k0:=aV W #[.int .i64 x,.int .u32 (g:Int)] 60 0 _ rfl
 have k1:=aV W #[.int .i64 x,.int .u32 (g:Int)] 60 1 _ rfl
 have hsib: ¬sb=W.heap.size:=by have:=hs.lt;omega
 have hsib': ¬W.heap.size=sb:=fun e=>hsib e.symm
 have hlb:labk W.heap.size=0:=hs.at_.fresh (Nat.le_refl _)
 have c3:=hs.c3
 have hv:=hs.hv
 have hk:=hs.hk
 have HB0:=aa hb0
 have hki: ∀k,v.ownBlock=some k→k≠W.heap.size:=fun k e=>by have:=(hv.lt e).1;omega
 replace c3:=kc hb0 c3
 replace hv:=hv.below hb0
 clear hs hb0
 generalize hW:W.alloc (.cells #[.int .i64 x,.int .u32 (g:Int)] 60)=W0 at*
 have HW:=aa hW
 clear hW
 have p1:=s0.c1
 obtain⟨ad,cap,rfl⟩:=Cb.aH hv
 obtain⟨ev,hev⟩: ∃ev:Ev,(⟨kd,(pr:Int),x,g,ar,0⟩:Ev)=ev:=⟨_,rfl⟩
 have hb1:Below W0.heap.size W0 (W0.alloc (.cells #[.int .i64 kd,.int .i64 (pr:Int),.int .i64 x,.int .u32 (g:Int),.int .i64 ar,.int .i64 0] 62)).drew:=((Below.refl _ W0).alloc (Nat.le_refl _) _).drew
 have s1:=s0.below hb1
 have q31:=kc hb1 c3
 have q1:=kc hb1 p1
 have m0:=kc hb1 k0
 have m1:=kc hb1 k1
 have HOW:Hid ((W0.alloc (.cells #[.int .i64 kd,.int .i64 (pr:Int),.int .i64 x,.int .u32 (g:Int),.int .i64 ar,.int .i64 0] 62)).drew.ownsRow w.heap.size 62 6 (.slice ad l.length cap) l.length (bW l)):=s1.hv
 have HNW:Hid (∀j u,(fC ev)[j]? =some u→(W0.alloc (.cells #[.int .i64 kd,.int .i64 (pr:Int),.int .i64 x,.int .u32 (g:Int),.int .i64 ar,.int .i64 0] 62)).drew.cell? ((⟨W0.heap.size,0,none⟩:Addr).add j)=some u):=by
  rw[←hev]
  exact Cb.lB (w1:=W0) (c:=fC ⟨kd,(pr:Int),x,g,ar,0⟩) rfl
 have HBS:Hid (w.heap.size≤(W0.alloc (.cells #[.int .i64 kd,.int .i64 (pr:Int),.int .i64 x,.int .u32 (g:Int),.int .i64 ar,.int .i64 0] 62)).drew.heap.size):=s1.at_.f.size
 generalize hW1:(W0.alloc (.cells #[.int .i64 kd,.int .i64 (pr:Int),.int .i64 x,.int .u32 (g:Int),.int .i64 ar,.int .i64 0] 62)).drew=W1 at*
 have HEND:Hid (∀v1 w2,w2.ownsRow w.heap.size 62 6 v1 (l.length+1) (bW l++fC ev)→W1.grownBy w2 (Value.slice ad l.length cap).ownBlock→(v1.ownBlock=(Value.slice ad l.length cap).ownBlock∨v1.ownBlock=some W1.heap.size)→(SX w W (w2.setCell ⟨sb,3,none⟩ v1) lab a P n q T M sb pr (l++[ev]) O∧w2.cell? ⟨sb,3,none⟩=some (.slice ad l.length cap)∧w2.frozen? ⟨sb,3,none⟩=false)∧(w2.cell? ⟨sb,1,none⟩=some (.int .i64 (pr:Int))∧w2.cell? ⟨W.heap.size,0,none⟩=some (.int .i64 x)∧w2.cell? ⟨W.heap.size,1,none⟩=some (.int .u32 (g:Int)))):=fun v1 w2 ho hg hat=>by
  refine⟨⟨((s1.told ho hg hat).1 O hO).ahead (bt HB0.out hb1),(s1.told ho hg hat).2⟩,?_⟩
  have hbl: ∀b,b<W1.heap.size→(Value.slice ad l.length cap).ownBlock≠some b→w2.heap[b]? =W1.heap[b]? :=fun b hb hn=>hg.block b hb (fun e=>hn e.symm)
  have e1:=hbl sb s1.lt (fun e=>(hk sb e).2 rfl)
  have e2:=hbl W.heap.size (World.block_lt_of_cell? W1 _ m0) (fun e=>hki W.heap.size e rfl)
  exact⟨(World.cell?_of_block e1).trans q1,(World.cell?_of_block e2).trans m0,(World.cell?_of_block e2).trans m1⟩
 have HW1:=aa hW1
 have HEV:=aa hev
 clear hW1 hev
 obtain⟨i0,hi0,hz0,hz1,hz2⟩:=Cb.info_parts zq
 clear hv hk hki s0 s1 hb1 hO HB0
 go_enter Tryz.func102,Tryz.ntmps102
 go_wp2
 rw[HW.out]
 refine wp_region_held_drew (S:=(fun w'=>w'.cell? ⟨sb,1,none⟩=some (.int .i64 (pr:Int))∧w'.cell? ⟨W.heap.size,0,none⟩=some (.int .i64 x)∧w'.cell? ⟨W.heap.size,1,none⟩=some (.int .u32 (g:Int)))) (by kernel_rfl) ?_ (fun hHeld=> ?_)
 ·exact⟨p1,k0,k1⟩
 refine aF 0 (v:= ?_) rfl ?v0 ?_
 case v0=>(intro w hSw;(try dsimp only at hSw);obtain⟨hSa,hSb,hSc⟩:=hSw;go_simp;try with_reducible rfl)
 try simp only[ao]
 refine aF 1 (v:= ?_) rfl ?v1 ?_
 case v1=>(intro w hSw;(try dsimp only at hSw);obtain⟨hSa,hSb,hSc⟩:=hSw;go_simp;try with_reducible rfl)
 try simp only[ao]
 refine aF 2 (v:= ?_) rfl ?v2 ?_
 case v2=>(intro w hSw;(try dsimp only at hSw);obtain⟨hSa,hSb,hSc⟩:=hSw;go_simp;try with_reducible rfl)
 try simp only[ao]
 refine aF 3 (v:= ?_) rfl ?v3 ?_
 case v3=>(intro w hSw;(try dsimp only at hSw);obtain⟨hSa,hSb,hSc⟩:=hSw;go_simp;try with_reducible rfl)
 try simp only[ao]
 refine aF 5 (v:= ?_) rfl ?v5 ?_
 case v5=>(intro w hSw;(try dsimp only at hSw);obtain⟨hSa,hSb,hSc⟩:=hSw;go_simp;try with_reducible rfl)
 try simp only[ao]
 refine aF 6 (v:= ?_) rfl ?v6 ?_
 case v6=>(intro w hSw;(try dsimp only at hSw);obtain⟨hSa,hSb,hSc⟩:=hSw;go_simp;try with_reducible rfl)
 try simp only[ao]
 refine aF 7 (v:= ?_) rfl ?v7 ?_
 case v7=>(intro w hSw;(try dsimp only at hSw);obtain⟨hSa,hSb,hSc⟩:=hSw;go_simp;try with_reducible rfl)
 try simp only[ao]
 refine aF 8 (v:= ?_) rfl ?v8 ?_
 case v8=>(intro w hSw;(try dsimp only at hSw);obtain⟨hSa,hSb,hSc⟩:=hSw;go_simp;try with_reducible rfl)
 try simp only[ao]
 refine aF 9 (v:= ?_) rfl ?v9 ?_
 case v9=>(intro w hSw;(try dsimp only at hSw);obtain⟨hSa,hSb,hSc⟩:=hSw;go_simp;try with_reducible rfl)
 try simp only[ao]
 refine aF 10 (v:= ?_) rfl ?v10 ?_
 case v10=>(intro w hSw;(try dsimp only at hSw);obtain⟨hSa,hSb,hSc⟩:=hSw;go_simp;try with_reducible rfl)
 try simp only[ao]
 refine aF 11 (v:= ?_) rfl ?v11 ?_
 case v11=>(intro w hSw;(try dsimp only at hSw);obtain⟨hSa,hSb,hSc⟩:=hSw;go_simp;try with_reducible rfl)
 try simp only[ao]
 refine aF 12 (v:= ?_) rfl ?v12 ?_
 case v12=>(intro w hSw;(try dsimp only at hSw);obtain⟨hSa,hSb,hSc⟩:=hSw;go_simp;try with_reducible rfl)
 try simp only[ao]
 refine wpAnyH_ready (rs:=[4,13]) (by kernel_rfl) (by simp) ?_
 refine AllReadyH.cons rfl (fun K hK=> ?_) (AllReadyH.cons rfl (fun K hK=> ?_) AllReadyH.nil)
 ·skip
  go_simp
  refine hK.out _ _ ?_ (fun hHeld=> ?_)
  ·exact hHeld
  clear hK K
  try simp only[ao]
  refine bc 13 rfl (fun K hK=> ?_)
  go_simp
  rw[HW1.out]
  refine hK.out _ _ ?_ (fun hHeld=> ?_)
  ·exact⟨q1,m0,m1⟩
  clear hK K
  try simp only[ao]
  refine bc 14 rfl (fun K hK=> ?_)
  refine bM _ (by rfl) _ _ _ (by rfl) w.heap.size 62 i0 (.agg #[.int .i64 0,.int .i64 0,.int .i64 0,.int .u32 0,.int .i64 0,.int .i64 0]) 6 48 Tryz.underlying31 hi0 hz0 hz1 hz2 rfl (by omega) (.slice ad l.length cap) l.length (bW l) (by rfl) HOW.out ⟨W0.heap.size,0,none⟩ 1 1 (fC ev) (by rfl) rfl HNW.out (kE _) (by unfold maxLen;omega) (by omega) HBS.out ?_
  intro v1 w2 ho1 hg1 hat1
  obtain⟨⟨hsg,y1,y2⟩,hS2⟩:=HEND.out _ _ ho1 hg1 hat1
  obtain⟨a1,d1,rfl⟩:=Cb.aH ho1
  have HX:=aa hsg
  clear hsg ho1 hg1 hat1
  refine hK.out _ _ ?_ (fun hHeld=> ?_)
  ·exact hS2
  clear hK K
  try simp only[ao]
  refine aF 15 (v:= ?_) rfl ?v15 ?_
  case v15=>(intro w hSw;(try dsimp only at hSw);obtain⟨hSa,hSb,hSc⟩:=hSw;go_simp;try with_reducible rfl)
  try simp only[ao]
  refine aF 16 (v:= ?_) rfl ?v16 ?_
  case v16=>(intro w hSw;(try dsimp only at hSw);obtain⟨hSa,hSb,hSc⟩:=hSw;go_simp;try with_reducible rfl)
  try simp only[ao]
  refine bc 17 rfl (fun K hK=> ?_)
  go_simp
  refine hK.out _ _ ?_ (fun hHeld=> ?_)
  ·exact⟨(aw w2 (by decide)).trans hS2.1,(Gt.ab _ _ _ _ _ _ (fun q=>hsib q.1)).trans hS2.2.1,(Gt.ab _ _ _ _ _ _ (fun q=>hsib q.1)).trans hS2.2.2⟩
  clear hK K
  try simp only[ao]
  refine wpAnyH_done (by kernel_rfl) ?_ _
  go_wp2
  go_end0
  rw[HEV.out]
  exact⟨rfl,HX.out⟩
 ·skip
  go_simp
  rw[HW1.out]
  refine hK.out _ _ ?_ (fun hHeld=> ?_)
  ·exact⟨q1,m0,m1⟩
  clear hK K
  try simp only[ao]
  refine bc 4 rfl (fun K hK=> ?_)
  go_simp
  refine hK.out _ _ ?_ (fun hHeld=> ?_)
  ·exact hHeld
  clear hK K
  try simp only[ao]
  refine bc 14 rfl (fun K hK=> ?_)
  refine bM _ (by rfl) _ _ _ (by rfl) w.heap.size 62 i0 (.agg #[.int .i64 0,.int .i64 0,.int .i64 0,.int .u32 0,.int .i64 0,.int .i64 0]) 6 48 Tryz.underlying31 hi0 hz0 hz1 hz2 rfl (by omega) (.slice ad l.length cap) l.length (bW l) (by rfl) HOW.out ⟨W0.heap.size,0,none⟩ 1 1 (fC ev) (by rfl) rfl HNW.out (kE _) (by unfold maxLen;omega) (by omega) HBS.out ?_
  intro v1 w2 ho1 hg1 hat1
  obtain⟨⟨hsg,y1,y2⟩,hS2⟩:=HEND.out _ _ ho1 hg1 hat1
  obtain⟨a1,d1,rfl⟩:=Cb.aH ho1
  have HX:=aa hsg
  clear hsg ho1 hg1 hat1
  refine hK.out _ _ ?_ (fun hHeld=> ?_)
  ·exact hS2
  clear hK K
  try simp only[ao]
  refine aF 15 (v:= ?_) rfl ?v15 ?_
  case v15=>(intro w hSw;(try dsimp only at hSw);obtain⟨hSa,hSb,hSc⟩:=hSw;go_simp;try with_reducible rfl)
  try simp only[ao]
  refine aF 16 (v:= ?_) rfl ?v16 ?_
  case v16=>(intro w hSw;(try dsimp only at hSw);obtain⟨hSa,hSb,hSc⟩:=hSw;go_simp;try with_reducible rfl)
  try simp only[ao]
  refine bc 17 rfl (fun K hK=> ?_)
  go_simp
  refine hK.out _ _ ?_ (fun hHeld=> ?_)
  ·exact⟨(aw w2 (by decide)).trans hS2.1,(Gt.ab _ _ _ _ _ _ (fun q=>hsib q.1)).trans hS2.2.1,(Gt.ab _ _ _ _ _ _ (fun q=>hsib q.1)).trans hS2.2.2⟩
  clear hK K
  try simp only[ao]
  refine wpAnyH_done (by kernel_rfl) ?_ _
  go_wp2
  go_end0
  rw[HEV.out]
  exact⟨rfl,HX.out⟩
end
def m9:List PanicEntry:=[{v:= .iface 196 (.agg #[]),recovered:=false}]
section
variable {w W W':World} {lab labk:Nat→Nat} {a:Ad} {P n q T T':Nat} {M M':Mc} {sb pr:Nat} {l:List Ev} {O O0:Nat→Prop} {W0:World}
theorem SG.end_ (h:SG w W lab a P n q T M sb pr l O) (hl:l.length≤10000) (kd:Int) (x:Int) (g:Nat) (ar:Int):
  Calls Tryz.prog 105 #[.pointer (some ⟨sb,0,none⟩),.int .i64 kd,.agg #[.int .i64 x,.int .u32 (g:Int)],.int .i64 ar] W fun e w'=>e= .panicked m9∧SX w W w' lab a P n q T M sb pr (l++[⟨kd,(pr:Int),x,g,ar,0⟩]) O:=by
 have hb0:Below W.heap.size W (W.alloc (.cells #[.int .i64 x,.int .u32 (g:Int)] 60)):=(Below.refl _ _).alloc (Nat.le_refl _) _
 have HT:=aa ((h.sx.more hb0).call (R:=fun e=>e= .returned (.tuple #[])) fun _ s=>s.tell hl kd x g ar)
 clear h hb0
 unfold m9
 go_enter Tryz.func105,Tryz.ntmps105
 go_wp2_with (first
  |(go_at_call 102;refine(HT.out).mono ?_;rintro e w1 ⟨rfl,hg⟩;have HG:=aa hg;clear hg))
 simp[bodyPost]
 exact HG.out
theorem fM.ka {b o:Nat} {x:Pc} (h:fM W b o x) {o':Nat} (ho:o'<o∨o+3≤o') (u:Value):fM (W.setCell ⟨b,o',none⟩ u) b o x:=
 ⟨(aw W (by omega)).trans h.c0,(aw W (by omega)).trans h.c1,(aw W (by omega)).trans h.c2⟩
theorem fM.GN {b o:Nat} {x:Pc} (h:fM W b o x) (r:Int):fM (W.setCell ⟨b,o,none⟩ (.int .i64 r)) b o {x with r:=r}:=
 ⟨Gt.au _ _ _ _ h.c0,(aw W (by omega)).trans h.c1,(aw W (by omega)).trans h.c2⟩
theorem fM.GD {b o:Nat} {x:Pc} (h:fM W b o x) (r:Nat):fM (W.setCell ⟨b,o+1,none⟩ (.int .u64 (r:Int))) b o {x with s:=r}:=
 ⟨(aw W (by omega)).trans h.c0,Gt.au _ _ _ _ h.c1,(aw W (by omega)).trans h.c2⟩
theorem fM.FU {b o:Nat} {x:Pc} (h:fM W b o x) (r:Bool):fM (W.setCell ⟨b,o+2,none⟩ (.bool r)) b o {x with m:=r}:=
 ⟨(aw W (by omega)).trans h.c0,(aw W (by omega)).trans h.c1,Gt.au _ _ _ _ h.c2⟩
theorem DN.put {b:Nat} {f:Nat→Pc} (h:DN W b P f) {x:Nat} {t:Pc} (ht:fM W' b (x*3) t) (hok:t.s<18446744073709551616) (hfar: ∀j,j<P→j≠x→fM W' b (j*3) (f j)) (hfz: ∀o,W'.frozen? ⟨b,o,none⟩=false):DN W' b P (Gt.ax f x t):=by
 refine⟨fun i hi=> ?_,hfz,fun i hi=> ?_⟩
 ·by_cases e:i=x
  ·rw[e,Gt.aj];exact ht
  ·rw[Gt.ai _ _ _ _ e];exact hfar i hi e
 ·by_cases e:i=x
  ·rw[e,Gt.aj];exact hok
  ·rw[Gt.ai _ _ _ _ e];exact h.ok i hi
theorem EX {x j i:Nat} (h:j≠x) (hi:i<3):x*3+i<j*3∨j*3+3≤x*3+i:=by omega
theorem SX.end_ (h:SX w W0 W lab a P n q T M sb pr l O0) (hl:l.length≤10000) (kd:Int) (x:Int) (g:Nat) (ar:Int):
  Calls Tryz.prog 105 #[.pointer (some ⟨sb,0,none⟩),.int .i64 kd,.agg #[.int .i64 x,.int .u32 (g:Int)],.int .i64 ar] W fun e w'=>e= .panicked m9∧SX w W0 w' lab a P n q T M sb pr (l++[⟨kd,(pr:Int),x,g,ar,0⟩]) O0:=h.call (R:=fun e=>e= .panicked m9) fun _ s=>s.end_ hl kd x g ar
end
structure F5 (W:World) (b:Nat) (k:Ke.K):Prop where
 c0:W.cell? ⟨b,0,none⟩=some (.bool k.e)
 c1:W.cell? ⟨b,1,none⟩=some (.int .u64 k.d)
 c2:W.cell? ⟨b,2,none⟩=some (.int .u8 k.l)
theorem F5.new (W:World) (k:Ke.K):F5 (W.alloc (.cells #[.bool k.e,.int .u64 k.d,.int .u8 k.l] 130)) W.heap.size k:=⟨aV _ _ _ 0 _ rfl,aV _ _ _ 1 _ rfl,aV _ _ _ 2 _ rfl⟩
theorem jD.FA {W:World} {b:Nat} (r0:W.cell? ⟨b,0,none⟩=some (.bool false)) (r1:W.cell? ⟨b,1,none⟩=some (.int .u64 0)) (r2:W.cell? ⟨b,2,none⟩=some (.int .u8 0)) (k:Ke.K):F5 (((W.setCell ⟨b,0,none⟩ (.bool k.e)).setCell ⟨b,1,none⟩ (.int .u64 k.d)).setCell ⟨b,2,none⟩ (.int .u8 k.l)) b k:=
 ⟨(aw _ (by decide)).trans ((aw _ (by decide)).trans (Gt.au _ _ _ _ r0)),(aw _ (by decide)).trans (Gt.au _ _ _ _ ((aw _ (by decide)).trans r1)),Gt.au _ _ _ _ ((aw _ (by decide)).trans ((aw _ (by decide)).trans r2))⟩
section
variable {w W W':World} {lab labk:Nat→Nat} {a:Ad} {P n q T T':Nat} {M M':Mc} {sb pr:Nat} {l:List Ev} {O O0:Nat→Prop} {W0:World}
theorem aD.FH (h:aD W labk a P n q T M) (p d:Int) (hd:0≤d∧d<18446744073709551616):
  Calls Tryz.prog 100 #[.pointer (some ⟨a.pb,0,none⟩),.int .i64 p,.int .u64 d] W fun e w'=>e= .returned (.tuple #[.int .i64 (bI (gh M.pl) (bb P (gh M.pl) p d)),.agg #[.bool (bK (gh M.pl) (bb P (gh M.pl) p d)).e,.int .u64 (bK (gh M.pl) (bb P (gh M.pl) p d)).d,.int .u8 (bK (gh M.pl) (bb P (gh M.pl) p d)).l],.int .i64 (bA (bb P (gh M.pl) p d)),.bool (bb P (gh M.pl) p d).isSome])∧Below W.heap.size W w':=by
 obtain⟨O,hp,hO⟩:=h.pl
 exact hp.FH p d hd
theorem aD.take (h:aD W labk a P n q T M) (p d:Int) (hd:0≤d∧d<18446744073709551616):
  Calls Tryz.prog 104 #[.pointer (some ⟨a.pb,0,none⟩),.int .i64 p,.int .u64 d] W fun e w'=>e= .returned (.tuple #[.int .i64 (bI (gh M.pl) (bb P (gh M.pl) p d)),.agg #[.bool (bK (gh M.pl) (bb P (gh M.pl) p d)).e,.int .u64 (bK (gh M.pl) (bb P (gh M.pl) p d)).d,.int .u8 (bK (gh M.pl) (bb P (gh M.pl) p d)).l],.int .i64 (bA (bb P (gh M.pl) p d)),.bool (bb P (gh M.pl) p d).isSome])∧ay W w' labk a P n q (T+1) {M with pl:=im P (gh M.pl) p d}:=by
 obtain⟨O,hp,hO⟩:=h.pl
 refine(hp.take p d hd).mono ?_
 rintro e w' ⟨rfl,hp',hf⟩
 have h8:Fr (fun k=>labk k=8) W w':=hf.to (fun k _ hk=>hO k hk)
 exact⟨rfl,labk,h.Fh (h.same h8) h8 hp' hO,h.same h8,h8.to (fun k _ hk=>by rw[hk];decide)⟩
theorem SX.rY (h:SX w W0 W lab a P n q T M sb pr l O0) (hp:pr<P) (d:Int) (hd:0≤d∧d<18446744073709551616) (hno:(M.pc pr).r= -1∨(bb P (gh M.pl) (pr:Int) d).isSome=false):
  Calls Tryz.prog 77 #[.pointer (some ⟨sb,0,none⟩),.int .u64 d] W fun e w'=>e= .returned (.tuple #[])∧SX w W0 w' lab a P n q T M sb pr l O0:=by
 have HBS:Hid (∀V,Below W.heap.size W V→Calls Tryz.prog 100 #[.pointer (some ⟨a.pb,0,none⟩),.int .i64 (pr:Int),.int .u64 d] V fun e w'=>e= .returned (.tuple #[.int .i64 (bI (gh M.pl) (bb P (gh M.pl) (pr:Int) d)),.agg #[.bool (bK (gh M.pl) (bb P (gh M.pl) (pr:Int) d)).e,.int .u64 (bK (gh M.pl) (bb P (gh M.pl) (pr:Int) d)).d,.int .u8 (bK (gh M.pl) (bb P (gh M.pl) (pr:Int) d)).l],.int .i64 (bA (bb P (gh M.pl) (pr:Int) d)),.bool (bb P (gh M.pl) (pr:Int) d).isSome])∧Below W.heap.size W w'∧ ∀b,jD V b→jD w' b):=fun V hb=>by
  obtain⟨lk,i⟩:=(h.more hb).i
  exact(i.FH (pr:Int) d hd).mono (fun _ _ ⟨e,b⟩=>⟨e,bt hb b,fun _ k=>k.kept b⟩)
 have HC:Hid (∀V,Below W.heap.size W V→V.cell? ⟨sb,0,none⟩=some (.pointer (some ⟨a.m,0,none⟩))∧V.cell? ⟨sb,1,none⟩=some (.int .i64 (pr:Int))∧V.cell? ⟨a.m,8,none⟩=some (.pointer (some ⟨a.pb,0,none⟩))):=fun V hb=>⟨(h.more hb).c0,(h.more hb).c1,(h.more hb).core.c8⟩
 have HD:Hid (∀V,Below W.heap.size W V→V.cell? ⟨sb,2,none⟩=some (.pointer (some ⟨a.pr,pr*3,none⟩))∧V.cell? ⟨a.pr,pr*3,none⟩=some (.int .i64 (M.pc pr).r)∧V.cell? ⟨a.pr,pr*3+2,none⟩=some (.bool (M.pc pr).m)):=fun V hb=>⟨(h.more hb).c2,((h.more hb).pc hp).c0,((h.more hb).pc hp).c2⟩
 have H0:=aa (Below.refl W.heap.size W)
 have HS:=aa h
 obtain⟨c0,c1,c8⟩:=HC.out _ H0.out
 have HKN:=aa (jD.new W)
 have n1: ¬sb=W.heap.size:=by have:sb<W.heap.size:=World.block_lt_of_cell? W _ c0;omega
 have n2: ¬W.heap.size=sb:=fun e=>n1 e.symm
 have n3: ¬a.m=W.heap.size:=by have:a.m<W.heap.size:=World.block_lt_of_cell? W _ c8;omega
 have n4: ¬W.heap.size=a.m:=fun e=>n3 e.symm
 clear h
 generalize bI (gh M.pl) (bb P (gh M.pl) (pr:Int) d)=bi at*
 generalize bK (gh M.pl) (bb P (gh M.pl) (pr:Int) d)=bk at*
 generalize bA (bb P (gh M.pl) (pr:Int) d)=ba at*
 generalize (bb P (gh M.pl) (pr:Int) d).isSome=ok at*
 generalize (M.pc pr).r=r at*
 go_enter Tryz.func77,Tryz.ntmps77
 go_wp2
 go_region_held3 (fun w'=>w'.cell? ⟨sb,0,none⟩=some (.pointer (some ⟨a.m,0,none⟩))∧w'.cell? ⟨sb,1,none⟩=some (.int .i64 (pr:Int))∧w'.cell? ⟨a.m,8,none⟩=some (.pointer (some ⟨a.pb,0,none⟩)))
  (first|exact HC.out _ HB1.out|exact HC.out _ (HB1.out.alloc HB1.out.size _)|go_keep)
  (first
   |(go_at_call 100;refine(HBS.out _ (by exact aQ H0.out rfl rfl rfl rfl)).mono ?_;rintro e w1 ⟨rfl,hg,hkn⟩;have HB1:=aa hg;clear hg hkn)
   |(go_at_call 100;refine(HBS.out _ (by exact aQ ((Below.refl W.heap.size W).alloc (Nat.le_refl _) _) rfl rfl rfl rfl)).mono ?_;rintro e w1 ⟨rfl,hg,hkn⟩;have HB1:=aa hg;obtain⟨r0,r1,r2,f0,f1,f2⟩:=hkn _ (HKN.out.kept (by exact bp (Below.refl _ _) rfl rfl rfl rfl));clear hg hkn))
 all_goals (rename_i hHeld;clear hHeld)
 all_goals first
  |(have HBc:=aa (gK (gK (gK HB1.out (a:=⟨W.heap.size,0,none⟩) (Nat.le_refl _) (.bool bk.e)) (a:=⟨W.heap.size,1,none⟩) (Nat.le_refl _) (.int .u64 bk.d)) (a:=⟨W.heap.size,2,none⟩) (Nat.le_refl _) (.int .u8 bk.l));have HKA:Hid (F5 (((w1.setCell ⟨W.heap.size,0,none⟩ (.bool bk.e)).setCell ⟨W.heap.size,1,none⟩ (.int .u64 bk.d)).setCell ⟨W.heap.size,2,none⟩ (.int .u8 bk.l)) W.heap.size bk):=(jD.FA r0 r1 r2 bk);clear r0 r1 r2 f0 f1 f2 HB1;generalize ((w1.setCell ⟨W.heap.size,0,none⟩ (.bool bk.e)).setCell ⟨W.heap.size,1,none⟩ (.int .u64 bk.d)).setCell ⟨W.heap.size,2,none⟩ (.int .u8 bk.l)=Wc at*;obtain⟨kb,hkb⟩: ∃kb,W.heap.size=kb:=⟨_,rfl⟩;rw[hkb] at HKA)
  |(have HBc:=aa (HB1.out.alloc HB1.out.size (.cells #[.bool bk.e,.int .u64 bk.d,.int .u8 bk.l] 130));have HKA:=aa (F5.new w1 bk);clear HB1;generalize w1.alloc (.cells #[.bool bk.e,.int .u64 bk.d,.int .u8 bk.l] 130)=Wc at*;obtain⟨kb,hkb⟩: ∃kb,w1.heap.size=kb:=⟨_,rfl⟩;rw[hkb] at HKA)
 all_goals rw[hkb]
 all_goals clear hkb c0 c1 c8 n1 n2 n3 n4
 all_goals obtain⟨z2,z0,zm⟩:=HD.out _ HBc.out
 all_goals
  by_cases hr:r= -1
  ·subst hr
   go_wp2
   simp[bodyPost,results,Tryz.results77,go_sem]
   exact HS.out.more HBc.out
  ·have hok:=hno.resolve_left hr
   subst hok
   have hrb:(r== -1)=false:=by simp[hr]
   go_wp2
   simp[bodyPost,results,Tryz.results77,go_sem]
   exact HS.out.more HBc.out
end
section
variable {w W W':World} {lab labk:Nat→Nat} {a:Ad} {P n q T T':Nat} {M M':Mc} {sb pr:Nat} {l l':List Ev} {O O0:Nat→Prop} {W0:World}
theorem SG.tj (h:SG w W lab a P n q T M sb pr l O) {b:Nat} (hb: ¬O b) (hw:w.heap.size≤b) (o:Nat) (u:Value):SG w (W.setCell ⟨b,o,none⟩ u) lab a P n q T M sb pr l O:=by
 obtain⟨k,v,s,ho⟩:=h
 have hl:k b=0:=Classical.byContradiction fun q=>hb ((ho b).2 (.inl q))
 have hsb:sb≠b:=fun q=>hb ((ho b).2 (.inr (.inl q.symm)))
 have hv:v.ownBlock≠some b:=fun q=>hb ((ho b).2 (.inr (.inr q)))
 have ec: ∀o',(W.setCell ⟨b,o,none⟩ u).cell? ⟨sb,o',none⟩=W.cell? ⟨sb,o',none⟩:=fun o'=>Gt.ab _ _ _ _ _ _ (fun q=>hsb q.1.symm)
 exact⟨k,v,⟨s.at_.set hw hl o u,(ec _).trans s.c0,(ec _).trans s.c1,(ec _).trans s.c2,(ec _).trans s.c3,aN s.hv (fun j q=>Below.heap_setCell _ _ _ _ (fun e=>hv (by have e':j=b:=e;rw[←e'];exact q))),s.hk,fun o'=>by rw[aM];exact s.fz o',s.ls,s.ws⟩,ho⟩
theorem SX.base (h:SX w W0 W lab a P n q T M sb pr l O0): ∃O,SG w W lab a P n q T M sb pr l O∧ ∀(Wc:World) (T':Nat) (M':Mc) (l':List Ev),SX w W Wc lab a P n q T' M' sb pr l' O→SX w W0 Wc lab a P n q T' M' sb pr l' O0:=by
 obtain⟨O,hs,hf,ho⟩:=h
 refine⟨O,hs,?_⟩
 rintro Wc T' M' l' ⟨O2,hs2,hf2,ho2⟩
 exact⟨O2,hs2,hf.then hf2 (fun k hk q=>ho k hk q),fun k hk q=>ho k hk (ho2 k (Nat.lt_of_lt_of_le hk hf.size) q)⟩
theorem SG.wl (h:SG w W lab a P n q T M sb pr l O):w.heap.size≤W.heap.size:=by
 obtain⟨k,v,s,ho⟩:=h
 exact s.at_.f.size
noncomputable def GU (P:Nat) (M:Mc) (pr:Nat) (d:Int):Mc:={M with pl:=im P (gh M.pl) (pr:Int) d}
end
section
variable {w W W':World} {lab labk:Nat→Nat} {a:Ad} {P n q T T':Nat} {M M':Mc} {sb pr:Nat} {l l':List Ev} {O O0:Nat→Prop} {W0:World}
theorem aD.BP (h:aD W labk a P n q T M) {x:Nat} (hx:x<n) (p:Int) (f:Nat) (hf:f<256):
  ay W ((W.setCell ⟨a.th,x*10+6,none⟩ (.int .i64 p)).setCell ⟨a.th,x*10+4,none⟩ (.int .u8 (f:Int))) labk a P n q T {M with th:=Gt.ax M.th x {M.th x with pc:=p,lf:=f}}:=by
 have ok:=h.th.ok x hx
 have hfr:Fr (fun k=>labk k=4) W ((W.setCell ⟨a.th,x*10+6,none⟩ (.int .i64 p)).setCell ⟨a.th,x*10+4,none⟩ (.int .u8 (f:Int))):=((Fr.refl _ _).setCell (a:=⟨a.th,_,none⟩) h.lth _).setCell (a:=⟨a.th,_,none⟩) h.lth _
 refine⟨labk,h.Ew (h.same hfr) hfr (h.th.put (((h.th.at_ x hx).Aa p).tv f) ⟨ok.g,ok.lv,hf,ok.il,ok.sn⟩ (fun j hj hne=>((h.th.at_ j hj).ka (uU hne (by decide)) _).ka (uU hne (by decide)) _) (fun o=>by rw[aM,aM];exact h.th.fz o)),h.same hfr,hfr.to (fun k _ hk=>by rw[hk];decide)⟩
theorem aD.Br (h:aD W labk a P n q T M) (hp:pr<P) (r:Int) (s:Nat) (hs:s<18446744073709551616) (m:Bool):
  ay W (((W.setCell ⟨a.pr,pr*3,none⟩ (.int .i64 r)).setCell ⟨a.pr,pr*3+1,none⟩ (.int .u64 (s:Int))).setCell ⟨a.pr,pr*3+2,none⟩ (.bool m)) labk a P n q T {M with pc:=Gt.ax M.pc pr ⟨r,s,m⟩}:=by
 have h3:Fr (fun k=>labk k=3) W (((W.setCell ⟨a.pr,pr*3,none⟩ (.int .i64 r)).setCell ⟨a.pr,pr*3+1,none⟩ (.int .u64 (s:Int))).setCell ⟨a.pr,pr*3+2,none⟩ (.bool m)):=(((Fr.refl _ _).setCell (a:=⟨a.pr,_,none⟩) h.lpr _).setCell (a:=⟨a.pr,_,none⟩) h.lpr _).setCell (a:=⟨a.pr,_,none⟩) h.lpr _
 refine⟨labk,h.Hy (h.same h3) h3 (h.pc.put ((((h.pc.at_ pr hp).GN r).GD s).FU m) hs (fun j hj hne=>(((h.pc.at_ j hj).ka (EX (i:=0) hne (by decide)) _).ka (EX hne (by decide)) _).ka (EX hne (by decide)) _) (fun o=>by rw[aM,aM,aM];exact h.pc.fz o)),h.same h3,h3.to (fun k _ hk=>by rw[hk];decide)⟩
noncomputable def m7 (P n:Nat) (M:Mc) (pr x:Nat) (d:Int):Mc:={GU P M pr d with S:=dR n M.G M.S (M.th x).p (M.th x).g 2}
noncomputable def oG (P n:Nat) (M:Mc) (pr x:Nat) (d:Int):Mc:={m7 P n M pr x d with th:=Gt.ax M.th x {M.th x with pc:=(pr:Int),lf:=(da M (M.th x)).toNat}}
noncomputable def ll (P n:Nat) (M:Mc) (pr x:Nat) (d:Int):Mc:={oG P n M pr x d with pc:=Gt.ax M.pc pr ⟨(x:Int),0,false⟩}
theorem BH (x:Int) (w:World):(Instr.build 99 #[(0,.int .i64 x)]).run Tryz.prog w= .ok (.agg #[.int .i64 x,.int .u64 0,.bool false]) w:=run_build w 99 _ _ (by kernel_rfl)
theorem Cz (M:Mc) (t:Tr) (h:t.ok):0≤da M t∧da M t<256:=by
 have hl:=h.lv
 unfold da Ag.xw
 by_cases e:(M.ag:Int)=0
 ·rw[if_pos e];omega
 ·rw[if_neg e]
  have hs:0≤Ag.jJ M.nw t.sn:=by unfold Ag.jJ;split<;>omega
  have hd:0≤Ag.jJ M.nw t.sn/(M.ag:Int):=Int.ediv_nonneg hs (by omega)
  split<;>omega
theorem SX.nL (h:SX w W0 W lab a P n q T M sb pr l O0) (hl:l.length≤10000) (hp:pr<P) (d:Int) (hd:0≤d∧d<18446744073709551616) (hr:(M.pc pr).r= -1) (hok:(bb P (gh M.pl) (pr:Int) d).isSome=true) (x:Nat) (hx:x<n) (hbi:bI (gh M.pl) (bb P (gh M.pl) (pr:Int) d)=(x:Int)):
  Calls Tryz.prog 78 #[.pointer (some ⟨sb,0,none⟩),.int .u64 d] W fun e w'=>e= .panicked m9∧SX w W0 w' lab a P n q (T+1) (ll P n M pr x d) sb pr (l++[⟨3,(pr:Int),(M.th x).p,(M.th x).g,bA (bb P (gh M.pl) (pr:Int) d),0⟩]) O0:=by
 obtain⟨t,ht⟩: ∃t,M.th x=t:=⟨_,rfl⟩
 have hx':(x:Int)<(n:Int):=by omega
 have tok:t.ok:=by rw[←ht];exact h.tok hx
 have hag:=Cz M t tok
 obtain⟨ag,hagn⟩: ∃ag:Nat,da M t=(ag:Int):=⟨(da M t).toNat,by omega⟩
 rw[ht]
 have HMV:Hid (∀V,SX w W0 V lab a P n q (T+1) (GU P M pr d) sb pr l O0→Calls Tryz.prog 106 #[.pointer (some ⟨a.tb,0,none⟩),.agg #[.int .i64 t.p,.int .u32 (t.g:Int)],.int .i64 2] V fun e w'=>(∃c:Int,e= .returned (.int .i64 c))∧SX w W0 w' lab a P n q (T+1) (m7 P n M pr x d) sb pr l O0):=fun V h=>by
  unfold m7
  rw[ht]
  exact h.lift (R:=fun e=> ∃c:Int,e= .returned (.int .i64 c)) fun _ i=>i.goes.move t.p t.g 2
 have HAG:Hid (∀V,SX w W0 V lab a P n q (T+1) (m7 P n M pr x d) sb pr l O0→Calls Tryz.prog 107 #[.pointer (some ⟨a.m,0,none⟩),.agg #[.int .i64 t.p,.int .u32 (t.g:Int),.int .i64 t.pg,.int .u8 (t.lv:Int),.int .u8 (t.lf:Int),.int .i64 t.sv,.int .i64 t.pc,.int .i64 t.ia,.int .i64 t.il,.int .u64 (t.sn:Int)]] V fun e w'=>e= .returned (.int .u8 (ag:Int))∧SX w W0 w' lab a P n q (T+1) (m7 P n M pr x d) sb pr l O0):=fun V h=>by
  rw[←hagn]
  exact h.F3 (R:=fun e=>e=_) fun _ i=>i.Gw t tok
 have HDB:Hid (∀V,SX w W0 V lab a P n q (T+1) (m7 P n M pr x d) sb pr l O0→SX w W0 ((V.setCell ⟨a.th,x*10+6,none⟩ (.int .i64 (pr:Int))).setCell ⟨a.th,x*10+4,none⟩ (.int .u8 (ag:Int))) lab a P n q (T+1) (oG P n M pr x d) sb pr l O0):=fun V h=>by
  have e:(da M (M.th x)).toNat=ag:=by rw[ht,hagn];rfl
  unfold oG
  rw[e]
  exact h.goes fun _ i=>i.BP hx (pr:Int) ag (by omega)
 have HDM:Hid (∀V,SX w W0 V lab a P n q (T+1) (oG P n M pr x d) sb pr l O0→SX w W0 (((V.setCell ⟨a.pr,pr*3,none⟩ (.int .i64 (x:Int))).setCell ⟨a.pr,pr*3+1,none⟩ (.int .u64 0)).setCell ⟨a.pr,pr*3+2,none⟩ (.bool false)) lab a P n q (T+1) (ll P n M pr x d) sb pr l O0):=fun V h=>h.goes fun _ i=>i.Br hp (x:Int) 0 (by decide) false
 have HEN:Hid (∀ba V,SX w W0 V lab a P n q (T+1) (ll P n M pr x d) sb pr l O0→Calls Tryz.prog 105 #[.pointer (some ⟨sb,0,none⟩),.int .i64 3,.agg #[.int .i64 t.p,.int .u32 (t.g:Int)],.int .i64 ba] V fun e w'=>e= .panicked m9∧SX w W0 w' lab a P n q (T+1) (ll P n M pr x d) sb pr (l++[⟨3,(pr:Int),t.p,t.g,ba,0⟩]) O0):=fun ba V h=>h.end_ hl 3 t.p t.g ba
 have HFA:Hid (∀V M',M'.th x=t→SX w W0 V lab a P n q (T+1) M' sb pr l O0→(V.cell? ⟨sb,0,none⟩=some (.pointer (some ⟨a.m,0,none⟩))∧V.cell? ⟨a.m,5,none⟩=some (.pointer (some ⟨a.tb,0,none⟩))∧V.cell? ⟨a.th,x*10,none⟩=some (.int .i64 t.p)∧V.cell? ⟨a.th,x*10+1,none⟩=some (.int .u32 (t.g:Int)))∧V.cell? ⟨a.m,4,none⟩=some (.slice (some ⟨a.th,0,none⟩) n a.xt)∧V.cell? ⟨sb,1,none⟩=some (.int .i64 (pr:Int))∧bo V a.th (x*10) t∧ ∀o,V.frozen? ⟨a.th,o,none⟩=false):=fun V M' e h=>⟨⟨h.c0,h.core.c5,by rw[←e];exact(h.tr hx).c0,by rw[←e];exact(h.tr hx).c1⟩,h.core.c4,h.c1,by rw[←e];exact h.tr hx,h.GZ⟩
 have HFB:Hid (∀V,SX w W0 V lab a P n q (T+1) (oG P n M pr x d) sb pr l O0→V.cell? ⟨sb,2,none⟩=some (.pointer (some ⟨a.pr,pr*3,none⟩))∧fM V a.pr (pr*3) (M.pc pr)∧ ∀o,V.frozen? ⟨a.pr,o,none⟩=false):=fun V h=>⟨h.c2,h.pc hp,h.lM⟩
 have HFC:Hid (∀V,SX w W0 V lab a P n q (T+1) (ll P n M pr x d) sb pr l O0→V.cell? ⟨a.th,x*10,none⟩=some (.int .i64 t.p)∧V.cell? ⟨a.th,x*10+1,none⟩=some (.int .u32 (t.g:Int))):=fun V h=>by
  have e:(ll P n M pr x d).th x={t with pc:=(pr:Int),lf:=(da M t).toNat}:=by unfold ll oG;simp only[Gt.aj];rw[ht]
  have:=h.tr hx
  rw[e] at this
  exact⟨this.c0,this.c1⟩
 have hth: ¬a.th=sb:=fun e=>by
  obtain⟨k,v,s⟩:=h.sp
  have h1:=s.ls
  rw[←e,s.at_.i.lth] at h1
  cases h1
 have hta:(GU P M pr d).th x=t:=ht
 have htb:(m7 P n M pr x d).th x=t:=ht
 have HF1:=aa (fun V h=>HFA.out V _ hta h)
 have HF2:=aa (fun V h=>HFA.out V _ htb h)
 have hbt:=fun w=>BH (x:Int) w
 clear HFA hta htb ht tok hag hagn
 obtain⟨O,hs,hwrap⟩:=h.base
 have HTK:Hid (∀V,Below W.heap.size W V→Calls Tryz.prog 104 #[.pointer (some ⟨a.pb,0,none⟩),.int .i64 (pr:Int),.int .u64 d] V fun e w'=>e= .returned (.tuple #[.int .i64 (bI (gh M.pl) (bb P (gh M.pl) (pr:Int) d)),.agg #[.bool (bK (gh M.pl) (bb P (gh M.pl) (pr:Int) d)).e,.int .u64 (bK (gh M.pl) (bb P (gh M.pl) (pr:Int) d)).d,.int .u8 (bK (gh M.pl) (bb P (gh M.pl) (pr:Int) d)).l],.int .i64 (bA (bb P (gh M.pl) (pr:Int) d)),.bool (bb P (gh M.pl) (pr:Int) d).isSome])∧ ∃O1,SG w w' lab a P n q (T+1) (GU P M pr d) sb pr l O1∧(W.heap.size<V.heap.size→ ¬O1 W.heap.size)∧Fr O W w'∧(∀k,k<W.heap.size→O1 k→O k)∧(jD V W.heap.size→jD w' W.heap.size)):=fun V hb=>by
  have hV:=hs.below hb
  have hn: ¬O W.heap.size:=fun q=>by have:=hs.lt q;omega
  obtain⟨lk,v,s,ho⟩:=id hV
  refine(s.at_.i.take (pr:Int) d hd).mono ?_
  rintro e w' ⟨rfl,hg⟩
  obtain⟨lab',A,hl,hf⟩:=s.at_.step hg
  have hl0:lk W.heap.size=0:=Classical.byContradiction fun q=>hn ((ho _).2 (.inl q))
  have hle: ∀k,k<V.heap.size→(lab' k≠0∨k=sb∨v.ownBlock=some k)→O k:=fun k hk q=>(ho k).2 (by
   rcases q with q|q
   ·exact .inl (by rw[←hl k hk];exact q)
   ·exact .inr q)
  refine⟨rfl,_,⟨lab',v,s.keep A hl (fun b hb hl=>hf.box hl hb),fun _=>Iff.rfl⟩,?_,(dh hb).then hf (fun k hk q=>(ho k).2 (.inl q)),fun k hk q=>hle k (Nat.lt_of_lt_of_le hk hb.size) q,fun kn=> ?_⟩
  ·rintro hlt (q|q|q)
   ·exact q (by rw[hl _ hlt];exact hl0)
   ·exact hn ((ho _).2 (.inr (.inl q)))
   ·exact hn ((ho _).2 (.inr (.inr q)))
  ·have e:=hf.box hl0 (World.block_lt_of_cell? V _ kn.c0)
   exact⟨(World.cell?_of_block e).trans kn.c0,(World.cell?_of_block e).trans kn.c1,(World.cell?_of_block e).trans kn.c2,(World.frozen?_of_block e).trans kn.f0,(World.frozen?_of_block e).trans kn.f1,(World.frozen?_of_block e).trans kn.f2⟩
 have HC:Hid (∀V M' T',∀O1,SG w V lab a P n q T' M' sb pr l O1→V.cell? ⟨sb,0,none⟩=some (.pointer (some ⟨a.m,0,none⟩))∧V.cell? ⟨sb,1,none⟩=some (.int .i64 (pr:Int))∧V.cell? ⟨a.m,8,none⟩=some (.pointer (some ⟨a.pb,0,none⟩))):=fun V M' T' O1 h=>⟨h.sx.c0,h.sx.c1,h.sx.core.c8⟩
 have hwl:=hs.wl
 have HWR:=aa hwrap
 have HS:=aa hs
 have H0:=aa (Below.refl W.heap.size W)
 have HKN:=aa (jD.new W)
 obtain⟨c0,c1,c8⟩:=HC.out _ _ _ _ hs
 have c2:=h.c2
 have r0:=(h.pc hp).c0
 have n1: ¬sb=W.heap.size:=by have:sb<W.heap.size:=World.block_lt_of_cell? W _ c0;omega
 have n2: ¬W.heap.size=sb:=fun e=>n1 e.symm
 have n3: ¬a.m=W.heap.size:=by have:a.m<W.heap.size:=World.block_lt_of_cell? W _ c8;omega
 have n4: ¬W.heap.size=a.m:=fun e=>n3 e.symm
 rw[hr] at r0
 clear h hs hwrap hr
 generalize bI (gh M.pl) (bb P (gh M.pl) (pr:Int) d)=bi at*
 generalize bK (gh M.pl) (bb P (gh M.pl) (pr:Int) d)=bk at*
 generalize bA (bb P (gh M.pl) (pr:Int) d)=ba at*
 generalize (bb P (gh M.pl) (pr:Int) d).isSome=ok at*
 have HAL:Hid (∀w1 O1 T' M' (o:Obj),SG w w1 lab a P n q T' M' sb pr l O1→Fr O W w1→(∀k,k<W.heap.size→O1 k→O k)→SX w W0 (w1.alloc o) lab a P n q T' M' sb pr l O0):=fun w1 O1 T' M' o h1 h2 h3=>HWR.out _ _ _ _ ⟨O1,h1.below ((Below.refl _ _).alloc (Nat.le_refl _) _),h2.then (dh (S:=fun _=>False) ((Below.refl w1.heap.size w1).alloc (Nat.le_refl _) o)) (fun _ _ q=>q.elim),h3⟩
 have HAS:Hid (∀w1 O1 T' M' u0 u1 u2,SG w w1 lab a P n q T' M' sb pr l O1→ ¬O1 W.heap.size→Fr O W w1→(∀k,k<W.heap.size→O1 k→O k)→SX w W0 (((w1.setCell ⟨W.heap.size,0,none⟩ u0).setCell ⟨W.heap.size,1,none⟩ u1).setCell ⟨W.heap.size,2,none⟩ u2) lab a P n q T' M' sb pr l O0):=fun w1 O1 T' M' u0 u1 u2 h1 hn h2 h3=>HWR.out _ _ _ _ ⟨O1,((h1.tj hn hwl 0 u0).tj hn hwl 1 u1).tj hn hwl 2 u2,h2.then ((((Fr.refl (fun k=>k=W.heap.size) w1).setCell (a:=⟨W.heap.size,0,none⟩) rfl u0).setCell (a:=⟨W.heap.size,1,none⟩) rfl u1).setCell (a:=⟨W.heap.size,2,none⟩) rfl u2) (fun k hk q=>by omega),h3⟩
 go_enter Tryz.func78,Tryz.ntmps78
 go_wp2
 go_region_held3 (fun w'=>w'.cell? ⟨sb,0,none⟩=some (.pointer (some ⟨a.m,0,none⟩))∧w'.cell? ⟨sb,1,none⟩=some (.int .i64 (pr:Int))∧w'.cell? ⟨a.m,8,none⟩=some (.pointer (some ⟨a.pb,0,none⟩)))
  (first|exact HC.out _ _ _ _ HG1.out|exact HC.out _ _ _ _ (HG1.out.below ((Below.refl _ _).alloc (Nat.le_refl _) _))|go_keep)
  (first
   |(go_at_call 104;refine(HTK.out _ (by exact aQ H0.out rfl rfl rfl rfl)).mono ?_;rintro e w1 ⟨rfl,O1,hg,_,hf1,ho1,_⟩;have HG1:=aa hg;have HF1:=aa hf1;have HO1:=aa ho1;clear hg hf1 ho1)
   |(go_at_call 104;refine(HTK.out _ (by exact aQ ((Below.refl W.heap.size W).alloc (Nat.le_refl _) _) rfl rfl rfl rfl)).mono ?_;rintro e w1 ⟨rfl,O1,hg,hno1,hf1,ho1,hkn⟩;have HG1:=aa hg;have HN1:=aa hno1;have HF1:=aa hf1;have HO1:=aa ho1;obtain⟨r0',r1,r2,f0,f1,f2⟩:=hkn (HKN.out.kept (by exact bp (Below.refl _ _) rfl rfl rfl rfl));clear hg hno1 hf1 ho1 hkn))
 all_goals (rename_i hHeld;clear hHeld)
 all_goals first
  |(have HX:=aa (HAS.out w1 O1 _ _ (.bool bk.e) (.int .u64 bk.d) (.int .u8 bk.l) HG1.out (HN1.out (by simp)) HF1.out HO1.out);clear r0' r1 r2 f0 f1 f2;generalize ((w1.setCell ⟨W.heap.size,0,none⟩ (.bool bk.e)).setCell ⟨W.heap.size,1,none⟩ (.int .u64 bk.d)).setCell ⟨W.heap.size,2,none⟩ (.int .u8 bk.l)=Wc at*)
  |(have HX:=aa (HAL.out w1 O1 _ _ (.cells #[.bool bk.e,.int .u64 bk.d,.int .u8 bk.l] 130) HG1.out HF1.out HO1.out);generalize w1.alloc (.cells #[.bool bk.e,.int .u64 bk.d,.int .u8 bk.l] 130)=Wc at*)
 all_goals clear c0 c1 c8 n1 n2 n3 n4 c2 r0 HG1 HF1 HO1 HAL HAS HTK HC HKN H0 HS HWR
 all_goals subst hok
 all_goals subst hbi
 all_goals obtain⟨⟨a0,a5,ap,ag0⟩,a4,a1,_,_⟩:=HF1.out _ HX.out
 all_goals go_upto_region 5 with fail
 all_goals go_region_held3 (fun w'=>w'.cell? ⟨sb,0,none⟩=some (.pointer (some ⟨a.m,0,none⟩))∧w'.cell? ⟨a.m,5,none⟩=some (.pointer (some ⟨a.tb,0,none⟩))∧w'.cell? ⟨a.th,x*10,none⟩=some (.int .i64 t.p)∧w'.cell? ⟨a.th,x*10+1,none⟩=some (.int .u32 (t.g:Int)))
  (first|exact(HF2.out _ HG2.out).1|go_keep)
  (first
   |(go_at_call 106;refine(HMV.out _ (by exact SX.pn HX.out rfl rfl rfl rfl)).mono ?_;rintro e w2 ⟨⟨c,rfl⟩,hg⟩;have HG2:=aa hg;clear hg))
 all_goals clear a0 a5 ap ag0 a4 a1 HX HF1 HMV
 all_goals (rename_i hHeld;clear hHeld)
 all_goals obtain⟨⟨b0,b5,bp',bg⟩,b4,b1,⟨d0,d1,d2,d3,d4,d5,d6,d7,d8,d9⟩,fz⟩:=HF2.out _ HG2.out
 all_goals go_upto_region 6 with fail
 all_goals
  refine wp_region_held_drew (S:=(fun w'=>w'.cell? ⟨sb,1,none⟩=some (.int .i64 (pr:Int))∧w'.cell? ⟨sb,0,none⟩=some (.pointer (some ⟨a.m,0,none⟩)))) (by kernel_rfl) ?_ (fun hHeld=> ?_)
  ·exact⟨b1,b0⟩
  refine aF 0 (v:= ?_) rfl ?v0 ?_
  case v0=>(intro w hSw;(try dsimp only at hSw);obtain⟨hSa,hSb⟩:=hSw;go_simp;try with_reducible rfl)
  try simp only[ao]
  refine aF 1 (v:= ?_) rfl ?v1 ?_
  case v1=>(intro w hSw;(try dsimp only at hSw);obtain⟨hSa,hSb⟩:=hSw;go_simp;try with_reducible rfl)
  try simp only[ao]
  refine aF 2 (v:= ?_) rfl ?v2 ?_
  case v2=>(intro w hSw;(try dsimp only at hSw);obtain⟨hSa,hSb⟩:=hSw;go_simp;try with_reducible rfl)
  try simp only[ao]
  refine aF 3 (v:= ?_) rfl ?v3 ?_
  case v3=>(intro w hSw;(try dsimp only at hSw);obtain⟨hSa,hSb⟩:=hSw;go_simp;try with_reducible rfl)
  try simp only[ao]
  refine aF 4 (v:= ?_) rfl ?v4 ?_
  case v4=>(intro w hSw;(try dsimp only at hSw);obtain⟨hSa,hSb⟩:=hSw;go_simp;try with_reducible rfl)
  try simp only[ao]
  refine aF 5 (v:= ?_) rfl ?v5 ?_
  case v5=>(intro w hSw;(try dsimp only at hSw);obtain⟨hSa,hSb⟩:=hSw;go_simp;try with_reducible rfl)
  try simp only[ao]
  refine aF 6 (v:= ?_) rfl ?v6 ?_
  case v6=>(intro w hSw;(try dsimp only at hSw);obtain⟨hSa,hSb⟩:=hSw;go_simp;try with_reducible rfl)
  try simp only[ao]
  refine aF 7 (v:= ?_) rfl ?v7 ?_
  case v7=>(intro w hSw;(try dsimp only at hSw);obtain⟨hSa,hSb⟩:=hSw;go_simp;try with_reducible rfl)
  try simp only[ao]
  refine aF 8 (v:= ?_) rfl ?v8 ?_
  case v8=>(intro w hSw;(try dsimp only at hSw);obtain⟨hSa,hSb⟩:=hSw;go_simp;try with_reducible rfl)
  try simp only[ao]
  refine aF 9 (v:= ?_) rfl ?v9 ?_
  case v9=>(intro w hSw;(try dsimp only at hSw);obtain⟨hSa,hSb⟩:=hSw;go_simp;try with_reducible rfl)
  try simp only[ao]
  refine aF 10 (v:= ?_) rfl ?v10 ?_
  case v10=>(intro w hSw;(try dsimp only at hSw);obtain⟨hSa,hSb⟩:=hSw;go_simp;try with_reducible rfl)
  try simp only[ao]
  refine aF 11 (v:= ?_) rfl ?v11 ?_
  case v11=>(intro w hSw;(try dsimp only at hSw);obtain⟨hSa,hSb⟩:=hSw;go_simp;try with_reducible rfl)
  try simp only[ao]
  refine bc 12 rfl (fun K hK=> ?_)
  go_simp
  refine hK.out _ _ ?_ (fun hHeld=> ?_)
  ·exact hHeld
  clear hK K
  try simp only[ao]
  refine bc 13 rfl (fun K hK=> ?_)
  go_simp
  go_at_call 107
  refine(HAG.out _ (by exact SX.pn HG2.out rfl rfl rfl rfl)).mono ?_
  rintro e w3 ⟨rfl,hg⟩
  have HG3:=aa hg
  obtain⟨⟨e0,e5,ep,eg⟩,e4,e1,⟨f0,f1,f2,f3,f4,f5,f6,f7,f8,f9⟩,fz3⟩:=HF2.out _ hg
  clear hg
  refine hK.out _ _ ?_ (fun hHeld=> ?_)
  ·exact⟨e1,e0⟩
  clear hK K
  try simp only[ao]
  refine aF 14 (v:= ?_) rfl ?v14 ?_
  case v14=>(intro w hSw;(try dsimp only at hSw);obtain⟨hSa,hSb⟩:=hSw;go_simp;try with_reducible rfl)
  try simp only[ao]
  refine aF 15 (v:= ?_) rfl ?v15 ?_
  case v15=>(intro w hSw;(try dsimp only at hSw);obtain⟨hSa,hSb⟩:=hSw;go_simp;try with_reducible rfl)
  try simp only[ao]
  refine bc 16 rfl (fun K hK=> ?_)
  go_simp
  refine hK.out _ _ ?_ (fun hHeld=> ?_)
  ·exact⟨(Gt.ab _ _ _ _ _ _ (fun q=>hth q.1)).trans e1,(Gt.ab _ _ _ _ _ _ (fun q=>hth q.1)).trans e0⟩
  clear hK K
  try simp only[ao]
  refine aF 17 (v:= ?_) rfl ?v17 ?_
  case v17=>(intro w hSw;(try dsimp only at hSw);obtain⟨hSa,hSb⟩:=hSw;go_simp;try with_reducible rfl)
  try simp only[ao]
  refine aF 18 (v:= ?_) rfl ?v18 ?_
  case v18=>(intro w hSw;(try dsimp only at hSw);obtain⟨hSa,hSb⟩:=hSw;go_simp;try with_reducible rfl)
  try simp only[ao]
  refine bc 19 rfl (fun K hK=> ?_)
  go_simp
  refine hK.out _ _ ?_ (fun hHeld=> ?_)
  ·exact⟨(Gt.ab _ _ _ _ _ _ (fun q=>hth q.1)).trans ((Gt.ab _ _ _ _ _ _ (fun q=>hth q.1)).trans e1),(Gt.ab _ _ _ _ _ _ (fun q=>hth q.1)).trans ((Gt.ab _ _ _ _ _ _ (fun q=>hth q.1)).trans e0)⟩
  clear hK K
  try simp only[ao]
  refine wpAnyH_done (by kernel_rfl) ?_ _
  have HG4:=aa (HDB.out _ HG3.out)
  clear d0 d1 d2 d3 d4 d5 d6 d7 d8 d9 fz b0 b5 bp' bg b4 b1 e0 e5 ep eg e4 e1 f0 f1 f2 f3 f4 f5 f6 f7 f8 f9 fz3 HG2 HG3 HF2 HAG HDB
  generalize (w3.setCell ⟨a.th,x*10+6,none⟩ (.int .i64 (pr:Int))).setCell ⟨a.th,x*10+4,none⟩ (.int .u8 (ag:Int))=w4 at*
  obtain⟨g2,⟨g0,g1,gm⟩,gf⟩:=HFB.out _ HG4.out
  go_upto_region 8 with fail
  have HG5:=aa (HDM.out _ HG4.out)
  clear g0 g1 gm gf g2 HFB HG4 HDM
  generalize ((w4.setCell ⟨a.pr,pr*3,none⟩ (.int .i64 (x:Int))).setCell ⟨a.pr,pr*3+1,none⟩ (.int .u64 0)).setCell ⟨a.pr,pr*3+2,none⟩ (.bool false)=w5 at*
  obtain⟨i0,i1⟩:=HFC.out _ HG5.out
  go_wp2_with (first
   |(go_at_call 105;refine(HEN.out _ _ HG5.out).mono ?_;rintro e w6 ⟨rfl,hg⟩;have HG:=aa hg;clear hg))
  simp[bodyPost]
  exact HG.out
end
theorem wI (older:List PanicEntry) (w:World):
  CallsD Tryz.prog 76 #[] (.panicking ({v:= .iface 196 (.agg #[]),recovered:=false}::older)) w fun e u' w'=>
   e= .returned (.tuple #[])∧u'= .panicking ({v:= .iface 196 (.agg #[]),recovered:=true}::older)∧w'=w:=by
 refine callsD_of_wpS Tryz.func76 rfl fun c₀ cs hu=> ?_
 apply wpS_seq
 apply wpS_region
 simp[wpOpsS,go_sem,recoverD,hu,Tryz.ntmps76,Exit.thenS]
 refine wpS_of_wp ?_
 have hta: ∀w,(Instr.typeAssert (.iface 196 (.agg #[])) 20 196 true).run Tryz.prog w= .ok (.tuple #[.agg #[],.bool true]) w:=fun w=>by kernel_rfl
 have heq: ∀w,(binOp BinOp.eql 20 (.iface 196 (.agg #[])) .nilIface).run Tryz.prog w= .ok (.bool false) w:=fun w=>by kernel_rfl
 have ht:(Array.replicate 9 undef).setIfInBounds 2 (Value.iface 196 (.agg #[]))= #[undef,undef,.iface 196 (.agg #[]),undef,undef,undef,undef,undef,undef]:=rfl
 rw[ht]
 clear ht
 go_wp2
 cases c₀
 simp_all [bodyPostS,results,Tryz.results76]
section
variable {W:World} {sb:Nat} {d:Int} {P1 P2 P3:World→Prop}
theorem xB (hg:Calls Tryz.prog 77 #[.pointer (some ⟨sb,0,none⟩),.int .u64 d] W fun e w'=>e= .returned (.tuple #[])∧P1 w')
  (ht: ∀V,P1 V→Calls Tryz.prog 78 #[.pointer (some ⟨sb,0,none⟩),.int .u64 d] V fun e w'=>e= .panicked m9∧P2 w'):
  Calls Tryz.prog 53 #[.pointer (some ⟨sb,0,none⟩),.int .u64 d] W fun e w'=>e= .returned (.tuple #[])∧P2 w':=by
 have hmf: ∀(fn:Fn) (first cap:Array Value) (w:World),(Instr.makeFunc fn first cap).run Tryz.prog w= .ok (.func fn first cap) w:=fun _ _ _ _=>rfl
 have HG:=aa hg
 have HT:=aa ht
 clear hg ht
 go_enter_defers Tryz.func53,Tryz.ntmps53
 go_wp2_with (first
  |(go_at_call 77;refine(HG.out).mono ?_;rintro e w1 ⟨rfl,h1⟩;have H1:=aa h1;clear h1)
  |(go_at_call 78;refine(HT.out _ H1.out).mono ?_;rintro e w2 ⟨rfl,h2⟩;have H2:=aa h2;clear h2))
 refine leaves_cons (f:=76) (args:= #[]) (by simp) (by simp[go_sem]) ?_
 refine(wI [] _).mono ?_
 rintro e u' w'' ⟨rfl,rfl,hw⟩
 simp[Go.Leaves,Go.settle,results,Tryz.results53,go_sem]
 rw[hw]
 exact H2.out
end
section
variable {w W W':World} {lab labk:Nat→Nat} {a:Ad} {P n q T T':Nat} {M M':Mc} {sb pr:Nat} {l:List Ev} {O O0:Nat→Prop} {W0:World}
theorem SG.start (h:aD w lab a P n q T M) (pr:Nat): ∃O,SG w (w.alloc (.cells #[.pointer (some ⟨a.m,0,none⟩),.int .i64 (pr:Int),.pointer (some ⟨a.pr,pr*3,none⟩),.slice none 0 0] 160)) lab a P n q T M w.heap.size pr [] O:=by
 have A:=h.Ik.new (.cells #[.pointer (some ⟨a.m,0,none⟩),.int .i64 (pr:Int),.pointer (some ⟨a.pr,pr*3,none⟩),.slice none 0 0] 160)
 exact⟨_,lab,.slice none 0 0,⟨A,aV _ _ _ 0 _ rfl,aV _ _ _ 1 _ rfl,aV _ _ _ 2 _ rfl,aV _ _ _ 3 _ rfl,gL.nil _ _,(fun k e=>by cases e),fun o=>Gt.aG _ _ _ _,h.fresh (Nat.le_refl _),Nat.le_refl _⟩,fun _=>Iff.rfl⟩
theorem Cu (x y:Addr) (p:Int) (w:World):(Instr.build 160 #[(0,.pointer (some x)),(1,.int .i64 p),(2,.pointer (some y))]).run Tryz.prog w= .ok (.agg #[.pointer (some x),.int .i64 p,.pointer (some y),.slice none 0 0]) w:=run_build w 160 _ _ (by kernel_rfl)
end
end Go.Proofs.YtdbailcdlngemaaGreatDoor
namespace Go.Proofs.YtdbailcdlngemaaGreatDoor
open Go.RowKit Go.Lib Go.Shelf
attribute [local go_sem ↓] Go.wp_at_zero Go.wp_at_succ
theorem lR {P:Program} (w:World) (dT sT ty elem:TypeId) (k g o dLen dCap:Nat) (a:Addr) (sLen sCap:Nat) (cur:Array Value) (t:TypeId) (cs:List Value)
  (hu:P.underlying dT=some (.slice elem)) (hs:(P.info? elem).map (·.size)=some k)
  (hg:w.heap[g]? =some (.cells cur t (0,0))) (m:Nat) (hm:Nat.min sLen dLen=m) (hn:cs.length=m*k)
  (hsrc: ∀j v,cs[j]? =some v→w.cell? (a.add j)=some v) (hfit:o+cs.length≤cur.size) (h1: ∀v∈cs,v.oneCell'=true):
  (Builtin.copy_ #[dT,sT] ty #[.slice (some ⟨g,o,none⟩) dLen dCap,.slice (some a) sLen sCap]).run P w=
   .ok (goInt m) (w.setRow g (cur.toList.take o++cs++cur.toList.drop (o+cs.length)).toArray):=by
 have hl:=run_loadCells_list (P:=P) w a cs hsrc
 have hst:=run_storeCells_at P g o t cs 0 cur w hg (by simpa using hfit) h1
 cases hq:P.info? elem with
 |none=>simp[hq] at hs
 |some i=>
  have hi:i.size=k:=by simpa [hq] using hs
  simp[Builtin.copy_,run_underlying hu,Builtin.lenOf,Builtin.firstCells,sizeOf,typeInfo,hq,hi,hm,←hn,hl,hst]
def aT (n:Nat):List Value:=(List.replicate n [Value.int .i64 (-1),Value.int .u64 0,Value.bool false]).flatten
theorem cJ (n:Nat):(aT n).length=n*3:=by simp[aT]
theorem kY (n:Nat): ∀u∈aT n,u.oneCell'=true:=by
 intro u hu
 unfold aT at hu
 rw[List.mem_flatten] at hu
 obtain⟨l,hl,hm⟩:=hu
 rw[(List.mem_replicate.1 hl).2] at hm
 simp at hm
 rcases hm with rfl|rfl|rfl<;>rfl
theorem fu (a b:Nat):aT (a+b)=aT a++aT b:=by
 unfold aT
 rw[←List.replicate_append_replicate,List.flatten_append]
theorem ph {a b:Nat} (h:a≤b):(aT b).take (a*3)=aT a:=by
 rw[show b=a+(b-a) by omega,fu,←cJ a,List.take_left]
theorem tZ: ∀(n i:Nat),i<n→(aT n)[i*3]? =some (.int .i64 (-1))∧(aT n)[i*3+1]? =some (.int .u64 0)∧(aT n)[i*3+2]? =some (.bool false):=by
 intro n i hi
 have e:aT n=aT i++(aT 1++aT (n-i-1)):=by rw[←fu,←fu];congr 1;omega
 rw[e,←cJ i]
 refine⟨?_,?_,?_⟩
 ·rw[List.getElem?_append_right (Nat.le_refl _),Nat.sub_self];rfl
 ·rw[List.getElem?_append_right (Nat.le_add_right _ _),Nat.add_sub_cancel_left];rfl
 ·rw[List.getElem?_append_right (Nat.le_add_right _ _),Nat.add_sub_cancel_left];rfl
theorem BD (P:Nat) (hP:P≤64) (w:World):Calls Tryz.prog 49 #[.int .u64 1,.int .u64 (P:Int)] w fun e w'=>e= .returned (.tuple #[.int .u64 0,.int .u64 (P:Int)])∧w'=w:=by
 have h:=fun w=>Bq.vQ 1 (P:Int) w (by omega) (by omega) (by omega) (by omega)
 have e1:Bq.Hi 1 (P:Int)=0:=by unfold Bq.Hi;omega
 have e2:Bq.Hs 1 (P:Int)=(P:Int):=by unfold Bq.Hs;omega
 rw[e1,e2] at h
 have H:=aa h
 clear h
 go_enter Tryz.func49,Tryz.ntmps49
 go_wp2_with (go_at_call 74;refine(H.out _).mono ?_;rintro e w' ⟨rfl,hw⟩;replace hw:=hw.symm;subst hw)
 go_ret2
 exact⟨rfl,rfl⟩
def gZ:Value:= .agg #[.int .i64 0,.int .u64 0,.bool false]
theorem EV:(Tryz.prog.info? 99).map (fun i=>(i.zero,i.size,i.bytes))=some (some gZ,3,24):=by kernel_rfl
theorem zP:(Tryz.prog.info? 99).map (·.size)=some 3:=by kernel_rfl
theorem AJ (z:Array Value) (n:Nat):(madeCells z n).toList.length=n:=by simp[madeCells]
structure Rp (W:World) (b P k:Nat):Prop where
 blk: ∃xs:List Value,W.heap[b]? =some (.cells xs.toArray 99 (0,0))∧xs.length=P*3∧xs.take (k*3)=aT k
theorem Rp.next {W:World} {b P k:Nat} {xs:List Value} (h1:W.heap[b]? =some (.cells xs.toArray 99 (0,0))) (h2:xs.length=P*3) (h3:xs.take (k*3)=aT k) {m:Nat} (hk:k+m≤P):Rp (W.setRow b (splice xs (k*3) (aT m)).toArray) b P (k+m):=by
 refine⟨splice xs (k*3) (aT m),?_,?_,?_⟩
 ·exact setRow_heap W b _ _ _ _ h1
 ·rw[length_splice _ _ _ (by rw[cJ,h2,←Nat.add_mul];exact Nat.mul_le_mul_right _ hk),h2]
 ·unfold splice
  rw[←List.append_assoc,h3,←fu,←cJ (k+m),List.take_left]
theorem Rp.cells {W:World} {b P k:Nat} (h:Rp W b P k) (hk:k≤P) {i:Nat} (hi:i<k):fM W b (i*3) ⟨-1,0,false⟩:=by
 obtain⟨xs,h1,h2,h3⟩:=h
 obtain⟨a,b',c⟩:=tZ k i hi
 rw[←h3] at a b' c
 have f: ∀j u,j<k*3→(xs.take (k*3))[j]? =some u→W.cell? ⟨b,j,none⟩=some u:=fun j u hj hu=>by
  rw[List.getElem?_take,if_pos hj] at hu
  unfold World.cell?
  simp only[h1]
  simpa using hu
 exact⟨f _ _ (by omega) a,f _ _ (by omega) b',f _ _ (by omega) c⟩
theorem D8:(Tryz.prog.info? 48).map (fun i=>(i.zero,i.size,i.bytes))=some (some (.agg #[.int .i64 0,.int .i64 0]),2,16):=by kernel_rfl
theorem F2 (w:World) (ad:Addr) (n cp:Nat):(binOp BinOp.eql 49 (.slice (some ad) n cp) (.slice none 0 0)).run Tryz.prog w= .ok (.bool false) w:=by kernel_rfl
theorem nu (O R:Nat→Int): ∀k,∀u∈Ex.aR O R k,u.oneCell'=true
 |0,u,h=>by cases h
 |k+1,u,h=>by
  rw[Ex.aR,List.mem_append] at h
  rcases h with h|h
  ·exact nu O R k u h
  ·simp at h
   rcases h with rfl|rfl<;>rfl
theorem wV {w:World} {lb off len:Nat} {O R:Nat→Int} (hc: ∀j,j<len→w.cell? ⟨lb,off+j*2,none⟩=some (.int .i64 (O j))∧w.cell? ⟨lb,off+j*2+1,none⟩=some (.int .i64 (R j))): ∀j u,(Ex.aR O R len)[j]? =some u→w.cell? ⟨lb,off+j,none⟩=some u:=by
 intro j u hu
 have hj:j<len*2:=by
  have:=(List.getElem?_eq_some_iff.1 hu).1
  rw[Ex.bE] at this
  exact this
 obtain⟨p1,p2⟩:=Ex.fh O R len (j/2) (by omega)
 obtain⟨c1,c2⟩:=hc (j/2) (by omega)
 rcases Nat.mod_two_eq_zero_or_one j with e|e
 ·rw[show j/2*2=j by omega] at p1 c1
  rw[hu] at p1
  rw[p1]
  rw[show off+j/2*2=off+j by omega] at*
  exact c1
 ·rw[show j/2*2+1=j by omega] at p2
  rw[hu] at p2
  rw[p2]
  rw[show off+j/2*2+1=off+j by omega] at c2
  exact c2
theorem wi (w:World) (a:Option Addr) (len cap:Nat) (O R:Nat→Int) (hp:Ex.nJ w a len O R) (h1:1≤len) (h2:len≤64):
  Calls Tryz.prog 57 #[.slice a len cap] w fun e w'=> ∃v',e= .returned v'∧w'.ownsRow w.heap.size 48 2 v' len (Ex.aR O R len)∧Below w.heap.size w w':=by
 obtain⟨i0,hi,hz0,hz1,hz2⟩:=Cb.info_parts D8
 rcases hp with h0|⟨lb,off,rfl,hlb,hc⟩
 ·omega
 have hc':=wV hc
 have HC:Hid (∀j u,(Ex.aR O R len)[j]? =some u→(w.alloc (.cells #[] 48)).cell? ((⟨lb,off,none⟩:Addr).add j)=some u):=by
  intro j u hu
  have hadd:(⟨lb,off,none⟩:Addr).add j=⟨lb,off+j,none⟩:=by unfold Addr.add;split<;>simp_all
  rw[hadd,World.cell?_alloc_lt _ _ _ (by simpa using hlb)]
  exact hc' j u hu
 have HL:Hid ((w.alloc (.cells #[] 48)).ownsRow w.heap.size 48 2 (.slice (some ⟨w.heap.size,0,none⟩) 0 0) 0 []):=by
  have:=World.ownsRow_lit (base:=w.heap.size) (e:=48) (size:=2) w #[] 0 (Nat.le_refl _) (by simp[maxLen]) rfl
  exact this
 have H1:=aa (nu O R len)
 have HLn:=aa (Ex.bE O R len)
 have hnil:=fun w=>F2 w ⟨lb,off,none⟩ len cap
 clear hc hc'
 generalize Ex.aR O R len=xs at*
 go_enter Tryz.func57,Tryz.ntmps57
 go_wp2_with (at_builtin;refine wpList_append_own _ rfl _ _ 49 rfl w.heap.size 48 i0 (.agg #[.int .i64 0,.int .i64 0]) 2 16 Tryz.underlying49 hi hz0 hz1 hz2 rfl (by omega) _ 0 [] (by rfl) HL.out ⟨lb,off,none⟩ len cap xs (by rfl) HLn.out HC.out H1.out (by unfold maxLen;omega) (by omega) (by simp) ?_;intro v' w1 hown hgrow _;have HO:=aa hown;have HG:=aa (hgrow:World.grownBy _ _ (Value.slice (some ⟨w.heap.size,0,none⟩) 0 0).ownBlock);clear hown hgrow)
 go_ret
 refine⟨v',rfl,by simpa using HO.out,?_⟩
 exact((Below.refl _ _).alloc (Nat.le_refl _) _).grown HG.out (by simp) (fun k hk=>by simp[Value.ownBlock] at hk;omega)
def dP (P n m:Nat) (qu ag:Nat):Mc:=⟨qu,ag,[],fun _=>⟨-1,0,false⟩,fun _=>Ek,fun _=>0,fun _=>0,[],Pi.Cm n m,List.replicate (P+1) [],0,[]⟩
def iV (s1 s2 s3 s4 s5 s6 m pr th:Nat) (k:Nat):Nat:=if k<s1 then 0 else if k<s2 then 5 else if k<s3 then 6 else if k<s4 then 7 else if k<s5 then 8 else if k<s6 then 9 else if k=m then 1 else if k=pr then 3 else if k=th then 4 else 0
def dk:Value:= .agg #[.int .i64 0,.int .u32 0,.int .i64 0,.int .u8 0,.int .u8 0,.int .i64 0,.int .i64 0,.int .i64 0,.int .i64 0,.int .u64 0]
theorem sU:(Tryz.prog.info? 172).map (fun i=>(i.zero,i.size,i.bytes))=some (some dk,10,72):=by kernel_rfl
theorem CN (q g:Int) (t s gr p w':Option Addr) (w:World):(Instr.build 96 #[(0,.int .u64 q),(1,.int .u64 g),(5,.pointer t),(6,.pointer s),(7,.pointer gr),(8,.pointer p),(9,.pointer w')]).run Tryz.prog w= .ok (.agg #[.int .u64 q,.int .u64 g,.slice none 0 0,.slice none 0 0,.slice none 0 0,.pointer t,.pointer s,.pointer gr,.pointer p,.pointer w']) w:=run_build w 96 _ _ (by kernel_rfl)
theorem Cf {s1 s2 s3 s4 s5 s6 m pr th k:Nat} (h:s1≤s2∧s2≤s3∧s3≤s4∧s4≤s5∧s5≤s6):
  (s1≤k→k<s2→iV s1 s2 s3 s4 s5 s6 m pr th k=5)∧(s2≤k→k<s3→iV s1 s2 s3 s4 s5 s6 m pr th k=6)∧(s3≤k→k<s4→iV s1 s2 s3 s4 s5 s6 m pr th k=7)∧(s4≤k→k<s5→iV s1 s2 s3 s4 s5 s6 m pr th k=8)∧(s5≤k→k<s6→iV s1 s2 s3 s4 s5 s6 m pr th k=9)∧(k<s1→iV s1 s2 s3 s4 s5 s6 m pr th k=0):=by
 refine⟨fun a b=> ?_,fun a b=> ?_,fun a b=> ?_,fun a b=> ?_,fun a b=> ?_,fun a=> ?_⟩<;>unfold iV
 ·rw[if_neg (by omega),if_pos (by omega)]
 ·rw[if_neg (by omega),if_neg (by omega),if_pos (by omega)]
 ·rw[if_neg (by omega),if_neg (by omega),if_neg (by omega),if_pos (by omega)]
 ·rw[if_neg (by omega),if_neg (by omega),if_neg (by omega),if_neg (by omega),if_pos (by omega)]
 ·rw[if_neg (by omega),if_neg (by omega),if_neg (by omega),if_neg (by omega),if_neg (by omega),if_pos (by omega)]
 ·rw[if_pos a]
structure yY (W:World) (a:Ad) (P n q m qu ag s1 s2 s3 s4 s5 s6:Nat):Prop where
 hP:1≤P∧P≤64
 hn:1≤n∧n≤1024
 hq:qu<18446744073709551616∧ag<18446744073709551616
 ss:s1≤s2∧s2≤s3∧s3≤s4∧s4≤s5∧s5≤s6
 s0:0<s1
 t0:Gt.ju W
 tb:Gt.aJ W a.tb a.tg n (fun _=>0) (fun _=>0)
 tbr:(s1≤a.tb∧a.tb<s2)∧s1≤a.tg∧a.tg<s2
 sv: ∃base,Cb.fR W base a.sb P (.slice none 0 0) []
 svr:s2≤a.sb∧a.sb<s3
 gr: ∃b O,Pi.PG W b O a.gb (Pi.Cm n m)∧ ∀k,O k→s3≤k∧k<s4
 pl: ∃O,PQ W O a.pb n P q 0 (List.replicate (P+1) [])∧ ∀k,O k→s4≤k∧k<s5
 wh:Wh.AX W a.wb a.wg a.wm n 0 []
 whr: ∀k,Wh.O3 a.wb a.wg a.wm k→s5≤k∧k<s6
 ms:s6≤a.m∧s6≤a.pr∧s6≤a.th
 ne:a.m≠a.pr∧a.m≠a.th∧a.pr≠a.th
 lt:a.m<W.heap.size∧a.pr<W.heap.size∧a.th<W.heap.size∧s6≤W.heap.size
 co:Core W a P n qu ag
 c2:W.cell? ⟨a.m,2,none⟩=some (.slice none 0 0)
 pc:DN W a.pr P (fun _=>⟨-1,0,false⟩)
 th:Bn W a.th n (fun _=>Ek)
theorem yY.is {W:World} {a:Ad} {P n q m qu ag s1 s2 s3 s4 s5 s6:Nat} (h:yY W a P n q m qu ag s1 s2 s3 s4 s5 s6):aD W (iV s1 s2 s3 s4 s5 s6 a.m a.pr a.th) a P n q 0 (dP P n m qu ag)∧ ∀k,iV s1 s2 s3 s4 s5 s6 a.m a.pr a.th k≠0→s1≤k:=by
 have L:=fun k=>Cf (m:=a.m) (pr:=a.pr) (th:=a.th) (k:=k) h.ss
 have hms:=h.ms
 have hss:=h.ss
 have hne:=h.ne
 have hlt:=h.lt
 have Lm:iV s1 s2 s3 s4 s5 s6 a.m a.pr a.th a.m=1:=by
  unfold iV
  rw[if_neg (by omega),if_neg (by omega),if_neg (by omega),if_neg (by omega),if_neg (by omega),if_neg (by omega),if_pos rfl]
 have Lp:iV s1 s2 s3 s4 s5 s6 a.m a.pr a.th a.pr=3:=by
  unfold iV
  rw[if_neg (by omega),if_neg (by omega),if_neg (by omega),if_neg (by omega),if_neg (by omega),if_neg (by omega),if_neg (fun e=>hne.1 e.symm),if_pos rfl]
 have Lt:iV s1 s2 s3 s4 s5 s6 a.m a.pr a.th a.th=4:=by
  unfold iV
  rw[if_neg (by omega),if_neg (by omega),if_neg (by omega),if_neg (by omega),if_neg (by omega),if_neg (by omega),if_neg (fun e=>hne.2.1 e.symm),if_neg (fun e=>hne.2.2 e.symm),if_pos rfl]
 obtain⟨b7,O7,g1,g2⟩:=h.gr
 obtain⟨O8,p1,p2⟩:=h.pl
 obtain⟨bs,hs⟩:=h.sv
 refine⟨⟨h.hP,h.hn,h.hq,?_,(L 0).2.2.2.2.2 h.s0,Lm,h.co,⟨_,[],h.c2,?_⟩,Lp,h.pc,Lt,h.th,⟨(L _).1 h.tbr.1.1 h.tbr.1.2,(L _).1 h.tbr.2.1 h.tbr.2.2⟩,h.tb,h.t0,(L _).2.1 h.svr.1 h.svr.2,⟨bs,_,hs,?_⟩,⟨b7,O7,g1,fun k hk=>(L k).2.2.1 (g2 k hk).1 (g2 k hk).2⟩,⟨O8,p1,fun k hk=>(L k).2.2.2.1 (p2 k hk).1 (p2 k hk).2⟩,fun k hk=>(L k).2.2.2.2.1 (h.whr k hk).1 (h.whr k hk).2,h.wh⟩,?_⟩
 ·intro k hk
  rcases Nat.lt_or_ge k s6 with q|q
  ·omega
  ·unfold iV at hk
   rw[if_neg (by omega),if_neg (by omega),if_neg (by omega),if_neg (by omega),if_neg (by omega),if_neg (by omega)] at hk
   split at hk
   ·omega
   split at hk
   ·omega
   split at hk
   ·omega
   exact absurd rfl hk
 ·exact⟨⟨rfl,.inl ⟨rfl,rfl⟩⟩,rfl,fun i p u hi _=>(by simp[dP] at hi),fun k hk=>(by cases hk),fun p hp=>(by simp[dP] at hp)⟩
 ·intro k hk;cases hk
 ·intro k hk
  rcases Nat.lt_or_ge k s1 with q|q
  ·exact absurd ((L k).2.2.2.2.2 q) hk
  ·exact q
theorem oM {X:World} {mb:Nat} {cs:Array Value} {t:TypeId} (h:X.heap[mb]? =some (.cells cs t (0,0))) (i:Nat):X.cell? ⟨mb,i,none⟩=cs[i]? :=by
 unfold World.cell?
 simp only[h]
 try rfl
theorem GS {X:World} {mb:Nat} {cs:Array Value} {t:TypeId} (h:X.heap[mb]? =some (.cells cs t (0,0))) (i:Nat):X.frozen? ⟨mb,i,none⟩=false:=by
 unfold World.frozen?
 simp only[h]
 simp
theorem De (n i j:Nat) (hi:i<n) (hj:j<10):(madeCells dk.cells (n*10))[i*10+j]? =some (dk.cells[j]!):=by
 have:=Pi.pF dk.cells (n*10) (i*10+j) (by omega)
 rw[show(i*10+j)%dk.cells.size=j by show(i*10+j)%10=j;omega] at this
 simpa using this
theorem Bn.made {W:World} {b n:Nat} (h:W.heap[b]? =some (.cells (madeCells dk.cells (n*10)) 172 (0,0))):Bn W b n (fun _=>Ek):=by
 have c: ∀i j,i<n→j<10→W.cell? ⟨b,i*10+j,none⟩=some (dk.cells[j]!):=fun i j hi hj=>(oM h _).trans (De n i j hi hj)
 exact⟨fun i hi=>⟨c i 0 hi (by decide),c i 1 hi (by decide),c i 2 hi (by decide),c i 3 hi (by decide),c i 4 hi (by decide),c i 5 hi (by decide),c i 6 hi (by decide),c i 7 hi (by decide),c i 8 hi (by decide),c i 9 hi (by decide)⟩,fun o=>GS h o,fun i hi=>⟨by decide,by decide,by decide,by decide,by decide⟩⟩
section
variable {w w':World} {lab lab':Nat→Nat} {a:Ad} {P n q T:Nat} {M:Mc}
theorem aD.H4 (h:aD w lab a P n q T M) (hl:oO w w' lab lab') (hf:Fr (fun k=>lab k=1∨lab k=2) w w') (hco:Core w' a P n M.qu M.ag) {v:Value} {vs:List Value} {l:List Pm} (h2:w'.cell? ⟨a.m,2,none⟩=some v) (hp:qt w' lab' v l vs):aD w' lab' a P n q T {M with pr:=l}:=by
 have hb: ∀k,lab k≠0→lab k≠1→lab k≠2→w'.heap[k]? =w.heap[k]? :=fun k hk h1 h2=>hf.block k (h.lt k hk) (fun q=>q.elim h1 h2)
 have bp:=hb a.pr (by rw[h.lpr];decide) (by rw[h.lpr];decide) (by rw[h.lpr];decide)
 have bt:=hb a.th (by rw[h.lth];decide) (by rw[h.lth];decide) (by rw[h.lth];decide)
 have ne: ∀k j,lab k=j→j≠1→j≠2→ ¬(lab k=1∨lab k=2):=fun k j e h1 h2 q=>by rw[e] at q;exact q.elim h1 h2
 refine⟨h.hP,h.hn,h.hq,hl.lt,h.z hl,h.l hl h.lm (by decide),hco,⟨v,vs,h2,hp⟩,h.l hl h.lpr (by decide),⟨fun i hi=>(h.pc.at_ i hi).kept bp,fun o=>(World.frozen?_of_block bp).trans (h.pc.fz o),h.pc.ok⟩,h.l hl h.lth (by decide),⟨fun i hi=>(h.th.at_ i hi).kept bt,fun o=>(World.frozen?_of_block bt).trans (h.th.fz o),h.th.ok⟩,⟨h.l hl h.ltb.1 (by decide),h.l hl h.ltb.2 (by decide)⟩,h.tb.frame hf.gt (ne _ _ h.ltb.1 (by decide) (by decide)) (ne _ _ h.ltb.2 (by decide) (by decide)),h.t0.frame hf.gt (by rw[h.l0];decide),h.l hl h.lsb (by decide),?_,?_,?_,fun k hk=>h.l hl (h.lw k hk) (by decide),h.wh.frame hf.wh (fun k hk=>ne _ _ (h.lw k hk) (by decide) (by decide))⟩
 ·obtain⟨base,v,hp,hq⟩:=h.sv
  exact⟨base,v,hp.frame hf.cb (ne _ _ h.lsb (by decide) (by decide)) (fun k hk=>ne _ _ (hq k hk) (by decide) (by decide)),fun k hk=>h.l hl (hq k hk) (by decide)⟩
 ·obtain⟨b,O,hp,hq⟩:=h.gr
  exact⟨b,O,hp.frame hf.pi (fun k hk=>ne _ _ (hq k hk) (by decide) (by decide)),fun k hk=>h.l hl (hq k hk) (by decide)⟩
 ·obtain⟨O,hp,hq⟩:=h.pl
  exact⟨O,hp.frame hf (fun k hk=>ne _ _ (hq k hk) (by decide) (by decide)),fun k hk=>h.l hl (hq k hk) (by decide)⟩
theorem aD.sD (h : aD w lab a P n q T M) {v : Value} {vs : List Value} (e2 : w.cell? ⟨a.m, 2, none⟩ = some v) (hp : qt w lab v M.pr vs) {w2 : World} (hb2 : Below w.heap.size w w2) {u : Value} {p : Pm} (hu : w2.ownsRow w.heap.size 48 2 u p.len (Ex.aR p.O p.R p.len)) (hr : Ex.Rt p.len p.O p.R)
  {w3 : World} {v1 : Value} (ho : w3.ownsRow 0 49 1 v1 (M.pr.length + 1) (vs ++ [u])) (hg : w2.grownBy w3 v.ownBlock) (hat : v1.ownBlock = v.ownBlock ∨ v1.ownBlock = some w2.heap.size) :
  w3.cell? ⟨a.m, 2, none⟩ = some v ∧ w3.frozen? ⟨a.m, 2, none⟩ = false ∧ ay w (w3.setCell ⟨a.m, 2, none⟩ v1) lab a P n q T { M with pr := M.pr ++ [p] } := by
 have hml : a.m < w.heap.size := h.lt a.m (by rw [h.lm]; decide)
 have hvm : v.ownBlock ≠ some a.m := fun e => by have := hp.lb _ e; rw [h.lm] at this; cases this
 have hvl : ∀ k, v.ownBlock = some k → k < w.heap.size := fun k e => h.lt k (by rw [hp.lb k e]; decide)
 have b3 : ∀ k, k < w2.heap.size → v.ownBlock ≠ some k → w3.heap[k]? = w2.heap[k]? := fun k hk hn => hg.block k hk (fun e => hn e.symm)
 have s2 := hb2.size
 have s3 := hg.size
 have m3 : w3.heap[a.m]? = w.heap[a.m]? := (b3 a.m (by omega) hvm).trans (hb2.block _ hml)
 have hset : ∀ k, k ≠ a.m → (w3.setCell ⟨a.m, 2, none⟩ v1).heap[k]? = w3.heap[k]? := fun k hk => Below.heap_setCell _ _ _ _ hk
 have c23 : w3.cell? ⟨a.m, 2, none⟩ = some v := (World.cell?_of_block m3).trans e2
 have ful : ∀ k, u.ownBlock = some k → w.heap.size ≤ k ∧ k < w2.heap.size := fun k e => by
  obtain ⟨q1, q2, _⟩ := Pi.aq hu e
  exact ⟨q1, q2⟩
 have hcore : Core w3 a P n M.qu M.ag := h.co.kept m3
 have ec : ∀ o, o ≠ 2 → (w3.setCell ⟨a.m, 2, none⟩ v1).cell? ⟨a.m, o, none⟩ = w3.cell? ⟨a.m, o, none⟩ := fun o ho => aw w3 (fun e => ho e.symm)
 have hf : Fr (fun k => lab k = 1 ∨ lab k = 2) w (w3.setCell ⟨a.m, 2, none⟩ v1) := by
  refine ⟨hg.os.trans hb2.os, hg.tape.trans hb2.tape, hg.output.trans hb2.output, by have : (w3.setCell ⟨a.m, 2, none⟩ v1).heap.size = w3.heap.size := by simp
                                                                                     omega, fun k hk hn => ?_⟩
  have k1 : k ≠ a.m := fun e => hn (.inl (by rw [e]; exact h.lm))
  rw [hset k k1, b3 k (by omega) (fun e => hn (.inr (hp.lb k e))), hb2.block k hk]
 let lab' : Nat → Nat := fun k => if k < w.heap.size then lab k else if u.ownBlock = some k ∨ v1.ownBlock = some k then 2 else 0
 have l1 : ∀ k, k < w.heap.size → lab' k = lab k := fun k hk => by show (if _ then _ else _) = _; rw [if_pos hk]
 have l2 : ∀ k, w.heap.size ≤ k → (u.ownBlock = some k ∨ v1.ownBlock = some k) → lab' k = 2 := fun k hk e => by show (if _ then _ else _) = _; rw [if_neg (by omega), if_pos e]
 have v1l : ∀ k, v1.ownBlock = some k → k < w3.heap.size := fun k e => (Pi.aq ho e).2.1
 have v1b : ∀ k, v1.ownBlock = some k → lab' k = 2 := fun k e => by
  rcases Nat.lt_or_ge k w.heap.size with q | q
  ·rw [l1 k q]
   rcases hat with r | r
   ·exact hp.lb k (r ▸ e)
   ·rw [r] at e; injection e with e; omega
  ·exact l2 k q (.inr e)
 have hl : oO w (w3.setCell ⟨a.m, 2, none⟩ v1) lab lab' := by
  refine ⟨l1, fun k hk => ?_⟩
  have e3 : (w3.setCell ⟨a.m, 2, none⟩ v1).heap.size = w3.heap.size := by simp
  rw [e3]
  rcases Nat.lt_or_ge k w.heap.size with q | q
  ·omega
  ·by_cases e : u.ownBlock = some k ∨ v1.ownBlock = some k
   ·rcases e with e | e
    ·have := (ful k e).2; omega
    ·exact v1l k e
   ·exfalso
    apply hk
    show (if _ then _ else _) = _
    rw [if_neg (by omega), if_neg e]
 have v1m : ∀ k, v1.ownBlock = some k → k ≠ a.m := fun k e q => by
  have := v1b k e
  rw [q, l1 _ hml, h.lm] at this
  cases this
 have hprs : qt (w3.setCell ⟨a.m, 2, none⟩ v1) lab' v1 (M.pr ++ [p]) (vs ++ [u]) := by
  refine ⟨?_, by rw [List.length_append, List.length_append, hp.len]; rfl, ?_, v1b, ?_⟩
  ·rw [List.length_append]
   exact aN ho (fun k e => hset k (v1m k e))
  ·intro i x y hx hy
   rcases Nat.lt_or_ge i M.pr.length with q | q
   ·rw [List.getElem?_append_left q] at hx
    rw [List.getElem?_append_left (by rw [hp.len]; exact q)] at hy
    obtain ⟨r1, r2⟩ := hp.at_ i x y hx hy
    refine ⟨aN r1 (fun k e => ?_), fun k e => by rw [l1 k (h.lt k (by rw [r2 k e]; decide))]; exact r2 k e⟩
    have hk := h.lt k (by rw [r2 k e]; decide)
    have hkm : k ≠ a.m := fun q => by have := r2 k e; rw [q, h.lm] at this; cases this
    rw [hset k hkm]
    by_cases ev : v.ownBlock = some k
    ·exfalso
     obtain ⟨_, _, x1, y1⟩ := Pi.aq r1 e
     obtain ⟨_, _, x2, y2⟩ := Pi.aq hp.row ev
     rw [y1] at y2
     simp at y2
    ·rw [b3 k (by omega) ev, hb2.block k hk]
   ·have hi : i = M.pr.length := by
     have := (List.getElem?_eq_some_iff.1 hx).1
     rw [List.length_append] at this
     simp at this
     omega
    subst hi
    rw [List.getElem?_append_right (Nat.le_refl _), Nat.sub_self] at hx
    rw [List.getElem?_append_right (by rw [hp.len]; exact Nat.le_refl _), hp.len, Nat.sub_self] at hy
    simp at hx hy
    subst hx hy
    refine ⟨?_, fun k e => l2 k (ful k e).1 (.inl e)⟩
    have hu0 : w2.ownsRow 0 48 2 u p.len (Ex.aR p.O p.R p.len) := Pi.pK hu (fun k e => Nat.zero_le _)
    refine aN hu0 (fun k e => ?_)
    obtain ⟨q1, q2⟩ := ful k e
    rw [hset k (by omega)]
    exact b3 k q2 (fun ev => by have := hvl k ev; omega)
  ·intro x hx
   rcases List.mem_append.1 hx with q | q
   ·exact hp.ok x q
   ·simp at q; subst q; exact hr
 refine ⟨c23, hcore.fz 2, lab', h.H4 hl hf ?_ (Gt.au _ _ _ _ c23) hprs, hl, hf.to (fun k _ q => by rcases q with q | q <;> rw [q] <;> decide)⟩
 exact ⟨(ec 0 (by decide)).trans hcore.c0, (ec 1 (by decide)).trans hcore.c1, (ec 3 (by decide)).trans hcore.c3, (ec 4 (by decide)).trans hcore.c4, (ec 5 (by decide)).trans hcore.c5, (ec 6 (by decide)).trans hcore.c6, (ec 7 (by decide)).trans hcore.c7, (ec 8 (by decide)).trans hcore.c8, (ec 9 (by decide)).trans hcore.c9, fun o => by rw [aM]; exact hcore.fz o⟩
end
theorem r7 {P:Program} {ops:Array Oper} {o:Oper} {a:Act} {w:World} {K:Act→World→Prop} {Q:Exit→Act→World→Prop} {E:Prop} (hgd:o.guard=none) (d s:Operand) (dT sT:TypeId)
  (ho:o.op= .call {callee:= .builtin .copy,args:= #[d,s],argTypes:= #[dT,sT]}) (elem:TypeId) (hu:P.underlying dT=some (.slice elem)) (k:Nat) (hsz:(P.info? elem).map (·.size)=some k)
  (g off dLen dCap:Nat) (ad:Addr) (sLen sCap:Nat) (hd:a.eval d= .slice (some ⟨g,off,none⟩) dLen dCap) (hs:a.eval s= .slice (some ad) sLen sCap)
  (cur:List Value) (t:TypeId) (hg:w.heap[g]? =some (.cells cur.toArray t (0,0))) (m:Nat) (hm:Nat.min sLen dLen=m) (cs:List Value) (hn:cs.length=m*k)
  (hsrc: ∀j v,cs[j]? =some v→w.cell? (ad.add j)=some v) (hfit:off+cs.length≤cur.length) (h1: ∀v∈cs,v.oneCell'=true)
  (h: ∀w',w'=w.setRow g (splice cur off cs).toArray→K (a.put o.dst (goInt m)) w'):
  if Region.wanted o (yielded ops a.tmps)=true then Oper.wp P o a w K Q else E:=by
 have hw:Region.wanted o (yielded ops a.tmps)=true:=by simp[Region.wanted,hgd]
 rw[if_pos hw]
 have hrun:=lR (P:=P) w dT sT o.type elem k g off dLen dCap ad sLen sCap cur.toArray t cs hu hsz hg m hm hn hsrc (by simpa using hfit) h1
 unfold Oper.wp
 simp[execOp,ho,resolve,invoke,builtin,hd,hs,hrun,Result.andThen]
 refine h _ ?_
 simp[splice]
theorem wP (w:World) (g P:Nat) (hP:1≤P∧P≤64) (c0:w.cell? ⟨g,0,none⟩=some (.int .i64 (-1))) (c1:w.cell? ⟨g,1,none⟩=some (.int .u64 0)) (c2:w.cell? ⟨g,2,none⟩=some (.bool false)):
  Calls Tryz.prog 31 #[.slice (some ⟨g,0,none⟩) 1 1,.int .i64 (P:Int)] w fun e w'=> ∃b,e= .returned (.slice (some ⟨b,0,none⟩) P P)∧(w.heap.size≤b∧b<w'.heap.size)∧DN w' b P (fun _=>⟨-1,0,false⟩)∧Below w.heap.size w w':=by
 obtain⟨i0,hi,hz0,hz1,hz2⟩:=Cb.info_parts EV
 have hmk: ∀w,(Instr.makeSlice 93 (.int .i64 (P:Int)) (.int .i64 (P:Int))).run Tryz.prog w= .ok (.slice (some ⟨w.heap.size,0,none⟩) P P) (w.alloc (.cells (madeCells gZ.cells (P*3)) 99)):=by
  intro w
  have:=run_make w 93 99 i0 gZ Tryz.underlying93 hi hz0 .i64 .i64 (P:Int) (P:Int) (by omega) (by omega) (by rw[hz2];omega) (by omega)
  rw[hz1,show(P:Int).toNat=P by omega] at this
  exact this
 have hgl:g<w.heap.size:=World.block_lt_of_cell? w _ c0
 have HM:=aa (fun w=>BD P hP.2 w)
 have hw1:IntKind.u64.wrap (P:Int)=(P:Int):=by simp[IntKind.wrap,IntKind.bits,IntKind.signed];omega
 have hw2:IntKind.i64.wrap (P:Int)=(P:Int):=by simp[IntKind.wrap,IntKind.bits,IntKind.signed];omega
 have hp0: ¬(P:Int)<0:=by omega
 have hp1: ¬(9223372036854775807:Int)<(P:Int):=by omega
 have HGB:Hid ((w.alloc (.cells (madeCells gZ.cells (P*3)) 99)).heap[w.heap.size]? =some (.cells (madeCells gZ.cells (P*3)).toList.toArray 99 (0,0))):=World.alloc_heap_new w _
 have HSR:Hid (∀j v,(aT 1)[j]? =some v→(w.alloc (.cells (madeCells gZ.cells (P*3)) 99)).cell? ((⟨g,0,none⟩:Addr).add j)=some v):=by
  intro j u hu
  have hadd:(⟨g,0,none⟩:Addr).add j=⟨g,j,none⟩:=by unfold Addr.add;split<;>simp_all
  rw[hadd,World.cell?_alloc_lt _ _ _ (by simpa using hgl)]
  match j,hu with
  |0,hu=>injection hu with hu;subst hu;exact c0
  |1,hu=>injection hu with hu;subst hu;exact c1
  |2,hu=>injection hu with hu;subst hu;exact c2
 have hln:=AJ gZ.cells (P*3)
 have HP:=aa hP
 clear hi hz0 hz1 hz2 c0 c1 c2
 generalize hmc:(madeCells gZ.cells (P*3))=mc at*
 clear hmc
 have hcp:=lR (P:=Tryz.prog) (w.alloc (.cells mc 99)) 93 93 3 99 3 w.heap.size 0 P P ⟨g,0,none⟩ 1 1 mc 99 (aT 1) Tryz.underlying93 zP (by simpa using HGB.out) 1 (by show min 1 P=1;omega) rfl HSR.out (by rw[cJ];simp at hln;omega) (kY 1)
 have HR1:Hid (Rp ((w.alloc (.cells mc 99)).setRow w.heap.size (mc.toList.take 0++aT 1++mc.toList.drop (0+(aT 1).length)).toArray) w.heap.size P 1):=by
  have:=Rp.next (W:=w.alloc (.cells mc 99)) (b:=w.heap.size) (P:=P) (k:=0) (xs:=mc.toList) HGB.out hln rfl (m:=1) (by omega)
  unfold Hid
  simpa [splice] using this
 have HB1:Hid (Below w.heap.size w ((w.alloc (.cells mc 99)).setRow w.heap.size (mc.toList.take 0++aT 1++mc.toList.drop (0+(aT 1).length)).toArray)):=below_setRow ((Below.refl _ _).alloc (Nat.le_refl _) _) (Nat.le_refl _) _
 have HS1:Hid (((w.alloc (.cells mc 99)).setRow w.heap.size (mc.toList.take 0++aT 1++mc.toList.drop (0+(aT 1).length)).toArray).heap.size=w.heap.size+1):=by unfold Hid;simp
 generalize ((w.alloc (.cells mc 99)).setRow w.heap.size (mc.toList.take 0++aT 1++mc.toList.drop (0+(aT 1).length)).toArray)=W1 at*
 clear HGB HSR hln
 go_enter Tryz.func31,Tryz.ntmps31
 go_wp2_with (go_at_call 49;refine(HM.out _).mono ?_;rintro e w1 ⟨rfl,hw⟩;replace hw:=hw.symm;subst hw)
 go_loopw [8] (fun nv wr=> ∃k:Nat,nv= .int .i64 k∧1≤k∧k≤P∧Rp wr w.heap.size P k∧Below w.heap.size w wr∧w.heap.size<wr.heap.size) (fun nv _=>P-(RowKit.intOf nv).toNat)
 case atStart=>exact⟨1,rfl,by omega,HP.out.1,HR1.out,HB1.out,by rw[HS1.out];omega⟩
 case round=>
  obtain⟨k,rfl,hk1,hkP,hR,hB,hsz⟩:=hrel
  have HR:=aa hR
  have HB:=aa hB
  have HSZ:=aa hsz
  clear hR hB hsz
  by_cases hkp:k<P
  ·have hkp':(k:Int)<(P:Int):=by omega
   go_wp2
   obtain⟨xs,hx1,hx2,hx3⟩:=HR.out
   have HX1:=aa hx1
   obtain⟨m,hm⟩: ∃m,Nat.min k (P-k)=m:=⟨_,rfl⟩
   have hm1:1≤m∧k+m≤P∧m≤k:=by
    have:min k (P-k)=m:=hm
    omega
   have HMN:=aa hm
   clear hm
   have hpk: ¬P=k:=by omega
   have hwk:IntKind.i64.wrap ((k:Int)+(m:Int))=((k+m:Nat):Int):=by simp[IntKind.wrap,IntKind.bits,IntKind.signed];omega
   have HNX:=aa (Rp.next (W:=wr.drew) (by exact hx1) hx2 hx3 (m:=m) hm1.2.1)
   have HFIT:Hid (k*3+(aT m).length≤xs.length):=by unfold Hid;rw[cJ,hx2];omega
   have HSRC:Hid (∀j v,(aT m)[j]? =some v→wr.cell? ((⟨w.heap.size,0,none⟩:Addr).add j)=some v):=by
    intro j u hu
    have hadd:(⟨w.heap.size,0,none⟩:Addr).add j=⟨w.heap.size,j,none⟩:=by unfold Addr.add;split<;>simp_all
    have hj:=(List.getElem?_eq_some_iff.1 hu).1
    rw[cJ] at hj
    rw[hadd]
    unfold World.cell?
    simp only[hx1]
    rw[←ph (a:=m) (b:=k) hm1.2.2,←hx3,List.getElem?_take,if_pos hj,List.getElem?_take,if_pos (by omega)] at hu
    simpa using hu
   clear hx1 hx2 hx3
   refine wp_region_held_drew (S:=fun _=>True) (by kernel_rfl) ?_ (fun hHeld=> ?_)
   ·trivial
   refine aF 0 (v:= ?_) rfl ?v0 ?_
   case v0=>(intro w hSw;(try dsimp only at hSw);go_simp;try with_reducible rfl)
   try simp only[ao]
   refine aF 1 (v:= ?_) rfl ?v1 ?_
   case v1=>(intro w hSw;(try dsimp only at hSw);go_simp;try with_reducible rfl)
   try simp only[ao]
   refine aF 2 (v:= ?_) rfl ?v2 ?_
   case v2=>(intro w hSw;(try dsimp only at hSw);go_simp;try with_reducible rfl)
   try simp only[ao]
   refine aF 3 (v:= ?_) rfl ?v3 ?_
   case v3=>(intro w hSw;(try dsimp only at hSw);go_simp;try with_reducible rfl)
   try simp only[ao]
   refine aF 4 (v:= ?_) rfl ?v4 ?_
   case v4=>(intro w hSw;(try dsimp only at hSw);go_simp;try with_reducible rfl)
   try simp only[ao]
   refine aF 5 (v:= ?_) rfl ?v5 ?_
   case v5=>(intro w hSw;(try dsimp only at hSw);go_simp;try with_reducible rfl)
   try simp only[ao]
   refine aF 6 (v:= ?_) rfl ?v6 ?_
   case v6=>(intro w hSw;(try dsimp only at hSw);go_simp;try with_reducible rfl)
   try simp only[ao]
   refine bc 7 rfl (fun K hK=> ?_)
   refine r7 (by rfl) _ _ _ _ (by rfl) 99 Tryz.underlying93 3 zP w.heap.size (k*3) (P-k) (P-k) ⟨w.heap.size,0,none⟩ k P (by rfl) (by rfl) xs 99 HX1.out m HMN.out (aT m) (cJ _) HSRC.out HFIT.out (kY _) ?_
   intro w2 hw2
   have HW2:=aa hw2
   clear hw2
   refine hK.out _ _ ?_ (fun hHeld=> ?_)
   ·trivial
   clear hK K
   try simp only[ao]
   refine aF 8 (v:= ?_) rfl ?v8 ?_
   case v8=>(intro w hSw;(try dsimp only at hSw);go_simp;try with_reducible rfl)
   try simp only[ao]
   refine aF 9 (v:= ?_) rfl ?v9 ?_
   case v9=>(intro w hSw;(try dsimp only at hSw);go_simp;try with_reducible rfl)
   try simp only[ao]
   refine wpAnyH_done (by kernel_rfl) ?_ _
   go_wp2
   go_roundw
   case rel=>
    rw[HW2.out]
    exact⟨k+m,by go_num,by omega,by omega,HNX.out,below_setRow (w:=wr.drew) (aQ HB.out rfl rfl rfl rfl) (Nat.le_refl _) _,by simpa using HSZ.out⟩
   case measure=>simp[RowKit.intOf];omega
  ·have hkp': ¬(k:Int)<(P:Int):=by omega
   obtain rfl:k=P:=by omega
   go_wp2
   go_ret
   refine⟨_,rfl,⟨Nat.le_refl _,HSZ.out⟩,⟨fun i hi=>HR.out.cells (Nat.le_refl _) hi,fun o=> ?_,fun i hi=>by show(0:Nat)<_;decide⟩,HB.out⟩
   obtain⟨xs,h1,_,_⟩:=HR.out
   unfold World.frozen?
   simp only[h1]
   simp
def lk (V0 V:World):Prop:=V.heap=V0.heap∧V.os=V0.os∧V.tape=V0.tape∧V.output=V0.output
theorem lk.eI {V0 V w':World} (h:lk V0 V) (hb:Below V.heap.size V w'):Below V0.heap.size V0 w':=by
 obtain⟨e1,e2,e3,e4⟩:=h
 exact⟨hb.os.trans e2,hb.tape.trans e3,hb.output.trans e4,by rw[←e1];exact hb.size,fun k hk=>(hb.block k (by rw[e1];exact hk)).trans (by rw[e1])⟩
theorem IF {X:World} {mb:Nat} {v:Value} {o:Obj} {u:Value} (hm:mb<X.heap.size) (c:X.cell? ⟨mb,4,none⟩=some u) (f:X.frozen? ⟨mb,4,none⟩=false):((X.setCell ⟨mb,3,none⟩ v).alloc o).cell? ⟨mb,4,none⟩=some u∧((X.setCell ⟨mb,3,none⟩ v).alloc o).frozen? ⟨mb,4,none⟩=false:=by
 have hs:mb<(X.setCell ⟨mb,3,none⟩ v).heap.size:=by simpa using hm
 have hb:((X.setCell ⟨mb,3,none⟩ v).alloc o).heap[mb]? =(X.setCell ⟨mb,3,none⟩ v).heap[mb]? :=Below.heap_alloc _ _ _ hs
 refine⟨?_,?_⟩
 ·rw[World.cell?_of_block hb]
  exact(aw X (by decide)).trans c
 ·rw[World.frozen?_of_block hb,aM]
  exact f
theorem BO (w:World):(Instr.build 99 #[(0,.int .i64 (-1))]).run Tryz.prog w= .ok (.agg #[.int .i64 (-1),.int .u64 0,.bool false]) w:=run_build w 99 _ _ (by kernel_rfl)
theorem fL (P n q m qu ag:Nat) (hP:1≤P∧P≤64) (hn:1≤n∧n≤1024) (hq:1≤q∧q≤256) (hm:m≤32) (hqu:1≤qu∧qu<18446744073709551616) (hag:1≤ag∧ag<18446744073709551616) (w:World) (ht:Gt.ju w):
  Calls Tryz.prog 18 #[.agg #[.int .i64 (P:Int),.int .i64 (n:Int),.int .i64 (q:Int),.int .i64 (m:Int),.int .u64 (qu:Int),.int .u64 (ag:Int)]] w fun e w'=> ∃a lab,e= .returned (.pointer (some ⟨a.m,0,none⟩))∧aD w' lab a P n q 0 (dP P n m qu ag)∧(∀k,lab k≠0→w.heap.size≤k)∧Below w.heap.size w w':=by
 obtain⟨W0,hW0⟩: ∃W0,w.alloc (.cells #[.int .i64 (P:Int),.int .i64 (n:Int),.int .i64 (q:Int),.int .i64 (m:Int),.int .u64 (qu:Int),.int .u64 (ag:Int)] 41)=W0:=⟨_,rfl⟩
 obtain⟨cb,hcb⟩: ∃cb,w.heap.size=cb:=⟨_,rfl⟩
 have HB0:Hid (Below w.heap.size w W0):=by rw[←hW0];exact(Below.refl _ _).alloc (Nat.le_refl _) _
 have c0:W0.cell? ⟨cb,0,none⟩=some (.int .i64 (P:Int)):=by rw[←hW0,←hcb];exact aV _ _ _ 0 _ rfl
 have c1:W0.cell? ⟨cb,1,none⟩=some (.int .i64 (n:Int)):=by rw[←hW0,←hcb];exact aV _ _ _ 1 _ rfl
 have c2:W0.cell? ⟨cb,2,none⟩=some (.int .i64 (q:Int)):=by rw[←hW0,←hcb];exact aV _ _ _ 2 _ rfl
 have c3:W0.cell? ⟨cb,3,none⟩=some (.int .i64 (m:Int)):=by rw[←hW0,←hcb];exact aV _ _ _ 3 _ rfl
 have c4:W0.cell? ⟨cb,4,none⟩=some (.int .u64 (qu:Int)):=by rw[←hW0,←hcb];exact aV _ _ _ 4 _ rfl
 have c5:W0.cell? ⟨cb,5,none⟩=some (.int .u64 (ag:Int)):=by rw[←hW0,←hcb];exact aV _ _ _ 5 _ rfl
 have hC: ∀V,Below W0.heap.size W0 V→V.cell? ⟨cb,0,none⟩=some (.int .i64 (P:Int))∧V.cell? ⟨cb,1,none⟩=some (.int .i64 (n:Int))∧V.cell? ⟨cb,2,none⟩=some (.int .i64 (q:Int))∧V.cell? ⟨cb,3,none⟩=some (.int .i64 (m:Int))∧V.cell? ⟨cb,4,none⟩=some (.int .u64 (qu:Int))∧V.cell? ⟨cb,5,none⟩=some (.int .u64 (ag:Int)):=fun V hb=>⟨kc hb c0,kc hb c1,kc hb c2,kc hb c3,kc hb c4,kc hb c5⟩
 have HC:=aa hC
 have HT0:Hid (Gt.ju W0):=ht.below HB0.out
 have HZ:Hid (Below W0.heap.size W0 W0):=Below.refl _ _
 have HG:Hid (∀V0 V,Below W0.heap.size W0 V0→lk V0 V→Calls Tryz.prog 26 #[.int .i64 (n:Int)] V fun e w'=> ∃tb tg,e= .returned (.pointer (some ⟨tb,0,none⟩))∧Gt.aJ w' tb tg n (fun _=>0) (fun _=>0)∧((V0.heap.size≤tb∧tb<w'.heap.size)∧V0.heap.size≤tg∧tg<w'.heap.size)∧Below V0.heap.size V0 w'∧Below W0.heap.size W0 w'):=fun V0 V h0 hl=>by
  refine(Gt.fL n V hn.1 hn.2).mono ?_
  rintro e w' ⟨rfl,hr,hb⟩
  have hb':=hl.eI hb
  obtain⟨cp,hsl⟩:=hr.sl
  have h1:=World.block_lt_of_cell? w' _ hsl
  have h2:=World.block_lt_of_cell? w' _ (hr.gn 0 hn.1)
  have hs:V.heap.size=V0.heap.size:=by rw[hl.1]
  exact⟨_,_,rfl,hr,⟨⟨by omega,h1⟩,by omega,h2⟩,hb',bt h0 hb'⟩
 have HS:Hid (∀V0 V,Below W0.heap.size W0 V0→lk V0 V→Calls Tryz.prog 27 #[.int .i64 (P:Int)] V fun e w'=> ∃sb,e= .returned (.pointer (some ⟨sb,0,none⟩))∧Cb.fR w' V0.heap.size sb P (.slice none 0 0) []∧(V0.heap.size≤sb∧sb<w'.heap.size)∧Below V0.heap.size V0 w'∧Below W0.heap.size W0 w'):=fun V0 V h0 hl=>by
  refine(Cb.fL V P hP.1 hP.2).mono ?_
  rintro e w' ⟨rfl,rfl⟩
  have hs:V.heap.size=V0.heap.size:=by rw[hl.1]
  have hb':=hl.eI ((Below.refl V.heap.size V).alloc (Nat.le_refl _) (.cells #[.int .u64 (P:Int),.slice none 0 0] 124))
  exact⟨_,rfl,Cb.fR.new V P hP.1 hP.2 _ (by omega),⟨by omega,by simp⟩,hb',bt h0 hb'⟩
 have HPI:Hid (∀V0 V,Below W0.heap.size W0 V0→lk V0 V→Calls Tryz.prog 28 #[.int .i64 (n:Int),.int .i64 (m:Int)] V fun e w'=> ∃gb O,e= .returned (.pointer (some ⟨gb,0,none⟩))∧Pi.PG w' V0.heap.size O gb (Pi.Cm n m)∧(∀k,O k→V0.heap.size≤k∧k<w'.heap.size)∧Below V0.heap.size V0 w'∧Below W0.heap.size W0 w'):=fun V0 V h0 hl=>by
  refine(Pi.pI n m V hn.1 hn.2 hm).mono ?_
  rintro e w' ⟨s,O,rfl,hg,hb⟩
  have hb':=hl.eI hb
  rw[hl.1] at hg
  exact⟨_,_,rfl,hg,fun k hk=>⟨hg.ge hk,hg.lt hk⟩,hb',bt h0 hb'⟩
 have HPR:Hid (∀V0 V,Below W0.heap.size W0 V0→lk V0 V→Calls Tryz.prog 29 #[.int .i64 (P:Int),.int .i64 (n:Int),.int .i64 (q:Int)] V fun e w'=> ∃pb O,e= .returned (.pointer (some ⟨pb,0,none⟩))∧PQ w' O pb n P q 0 (List.replicate (P+1) [])∧(∀k,O k→V0.heap.size≤k∧k<w'.heap.size)∧Below V0.heap.size V0 w'∧Below W0.heap.size W0 w'):=fun V0 V h0 hl=>by
  refine(Bp P n q V hP hn hq).mono ?_
  rintro e w' ⟨O,rfl,hg,ho,hb⟩
  have hb':=hl.eI hb
  rw[hl.1] at ho
  exact⟨_,_,rfl,hg,fun k hk=>⟨ho k hk,hg.blocks k hk⟩,hb',bt h0 hb'⟩
 have HWH:Hid (∀V0 V,Below W0.heap.size W0 V0→lk V0 V→Calls Tryz.prog 30 #[.int .i64 (n:Int)] V fun e w'=> ∃b g mb,e= .returned (.pointer (some ⟨b,0,none⟩))∧Wh.AX w' b g mb n 0 []∧(∀k,Wh.O3 b g mb k→V0.heap.size≤k∧k<w'.heap.size)∧Below V0.heap.size V0 w'∧Below W0.heap.size W0 w'):=fun V0 V h0 hl=>by
  refine(Wh.Bj n V hn.1 hn.2).mono ?_
  rintro e w' ⟨b,g,mb,rfl,ho,hg,hb⟩
  have hb':=hl.eI hb
  rw[hl.1] at ho
  exact⟨_,_,_,rfl,hg,ho,hb',bt h0 hb'⟩
 have hbm:=CN
 have HW0:=aa hW0
 have HCB:=aa hcb
 have hqu': ¬(qu:Int)<1:=by omega
 have hag': ¬(ag:Int)<1:=by omega
 clear ht
 go_enter Tryz.func18,Tryz.ntmps18
 go_wp2
 clear HW0 hW0 hcb
 go_region_held3 (fun w'=>w'.cell? ⟨cb,0,none⟩=some (.int .i64 (P:Int))∧w'.cell? ⟨cb,1,none⟩=some (.int .i64 (n:Int))∧w'.cell? ⟨cb,2,none⟩=some (.int .i64 (q:Int))∧w'.cell? ⟨cb,3,none⟩=some (.int .i64 (m:Int))∧w'.cell? ⟨cb,4,none⟩=some (.int .u64 (qu:Int))∧w'.cell? ⟨cb,5,none⟩=some (.int .u64 (ag:Int)))
  (first|exact HC.out _ HB5.out|exact HC.out _ HB4.out|exact HC.out _ HB3.out|exact HC.out _ HB2.out|exact HC.out _ HB1.out|go_keep)
  (first
   |(go_at_call 26;refine(HG.out W0 _ HZ.out (by exact⟨rfl,rfl,rfl,rfl⟩)).mono ?_;rintro e w1 ⟨tb,tg,rfl,r1,r2,b1,b1'⟩;have HR1:=aa r1;have HD1:=aa r2;have HL1:=aa b1;have HB1:=aa b1';clear r1 r2 b1 b1')
   |(go_at_call 27;refine(HS.out w1 _ HB1.out (by exact⟨rfl,rfl,rfl,rfl⟩)).mono ?_;rintro e w2 ⟨sb,rfl,r1,r2,b1,b1'⟩;have HR2:=aa r1;have HD2:=aa r2;have HL2:=aa b1;have HB2:=aa b1';clear r1 r2 b1 b1')
   |(go_at_call 28;refine(HPI.out w2 _ HB2.out (by exact⟨rfl,rfl,rfl,rfl⟩)).mono ?_;rintro e w3 ⟨gb,O7,rfl,r1,r2,b1,b1'⟩;have HR3:=aa r1;have HD3:=aa r2;have HL3:=aa b1;have HB3:=aa b1';clear r1 r2 b1 b1')
   |(go_at_call 29;refine(HPR.out w3 _ HB3.out (by exact⟨rfl,rfl,rfl,rfl⟩)).mono ?_;rintro e w4 ⟨pb,O8,rfl,r1,r2,b1,b1'⟩;have HR4:=aa r1;have HD4:=aa r2;have HL4:=aa b1;have HB4:=aa b1';clear r1 r2 b1 b1')
   |(go_at_call 30;refine(HWH.out w4 _ HB4.out (by exact⟨rfl,rfl,rfl,rfl⟩)).mono ?_;rintro e w5 ⟨wb,wg,wm,rfl,r1,r2,b1,b1'⟩;have HR5:=aa r1;have HD5:=aa r2;have HL5:=aa b1;have HB5:=aa b1';clear r1 r2 b1 b1'))
 rename_i hHeld
 clear hHeld
 have hblk:(w5.alloc (.cells #[.int .u64 (qu:Int),.int .u64 (ag:Int),.slice none 0 0,.slice none 0 0,.slice none 0 0,.pointer (some ⟨tb,0,none⟩),.pointer (some ⟨sb,0,none⟩),.pointer (some ⟨gb,0,none⟩),.pointer (some ⟨pb,0,none⟩),.pointer (some ⟨wb,0,none⟩)] 96)).heap[w5.heap.size]? =some (.cells #[.int .u64 (qu:Int),.int .u64 (ag:Int),.slice none 0 0,.slice none 0 0,.slice none 0 0,.pointer (some ⟨tb,0,none⟩),.pointer (some ⟨sb,0,none⟩),.pointer (some ⟨gb,0,none⟩),.pointer (some ⟨pb,0,none⟩),.pointer (some ⟨wb,0,none⟩)] 96 (0,0)):=World.alloc_heap_new _ _
 have hb6:Below w5.heap.size w5 (w5.alloc (.cells #[.int .u64 (qu:Int),.int .u64 (ag:Int),.slice none 0 0,.slice none 0 0,.slice none 0 0,.pointer (some ⟨tb,0,none⟩),.pointer (some ⟨sb,0,none⟩),.pointer (some ⟨gb,0,none⟩),.pointer (some ⟨pb,0,none⟩),.pointer (some ⟨wb,0,none⟩)] 96)):=(Below.refl _ _).alloc (Nat.le_refl _) _
 have hs6:(w5.alloc (.cells #[.int .u64 (qu:Int),.int .u64 (ag:Int),.slice none 0 0,.slice none 0 0,.slice none 0 0,.pointer (some ⟨tb,0,none⟩),.pointer (some ⟨sb,0,none⟩),.pointer (some ⟨gb,0,none⟩),.pointer (some ⟨pb,0,none⟩),.pointer (some ⟨wb,0,none⟩)] 96)).heap.size=w5.heap.size+1:=by simp
 generalize (w5.alloc (.cells #[.int .u64 (qu:Int),.int .u64 (ag:Int),.slice none 0 0,.slice none 0 0,.slice none 0 0,.pointer (some ⟨tb,0,none⟩),.pointer (some ⟨sb,0,none⟩),.pointer (some ⟨gb,0,none⟩),.pointer (some ⟨pb,0,none⟩),.pointer (some ⟨wb,0,none⟩)] 96))=W6 at*
 obtain⟨mb,hmb⟩: ∃mb,w5.heap.size=mb:=⟨_,rfl⟩
 rw[hmb] at hblk hs6 hb6
 have hcl:cb<W0.heap.size:=World.block_lt_of_cell? W0 _ c0
 have hcm:cb<mb:=by have:=HB5.out.size;omega
 have hb06:Below W0.heap.size W0 W6:=bt HB5.out (by rw[hmb];exact hb6)
 obtain⟨d0,d1,_,_,d4,d5⟩:=hC _ hb06
 have x7:=oM hblk 7
 have x8:=oM hblk 8
 simp only[List.getElem?_toArray] at x7 x8
 have hrp:=wP (W6.alloc (.cells #[.int .i64 (-1),.int .u64 0,.bool false] 99)) W6.heap.size P hP (aV _ _ _ 0 _ rfl) (aV _ _ _ 1 _ rfl) (aV _ _ _ 2 _ rfl)
 have hb7:Below W6.heap.size W6 (W6.alloc (.cells #[.int .i64 (-1),.int .u64 0,.bool false] 99)):=(Below.refl _ _).alloc (Nat.le_refl _) _
 have HRP:Hid (Calls Tryz.prog 31 #[.slice (some ⟨W6.heap.size,0,none⟩) 1 1,.int .i64 (P:Int)] (W6.alloc (.cells #[.int .i64 (-1),.int .u64 0,.bool false] 99)) fun e w'=> ∃b,e= .returned (.slice (some ⟨b,0,none⟩) P P)∧(W6.heap.size≤b∧b<w'.heap.size)∧DN w' b P (fun _=>⟨-1,0,false⟩)∧Below W6.heap.size W6 w'∧W6.heap.size<w'.heap.size):=by
  refine hrp.mono ?_
  rintro e w' ⟨b,rfl,h1,h2,h3⟩
  refine⟨b,rfl,⟨by have:=h1.1;simp at this;omega,h1.2⟩,h2,bt hb7 h3,by have:=h3.size;simp at this;omega⟩
 have hbp:=BO
 have d0':=(hC _ (bt hb06 hb7)).1
 obtain⟨i0,hi,hz0,hz1,hz2⟩:=Cb.info_parts sU
 have hmk: ∀w,(Instr.makeSlice 94 (.int .i64 (n:Int)) (.int .i64 (n:Int))).run Tryz.prog w= .ok (.slice (some ⟨w.heap.size,0,none⟩) n n) (w.alloc (.cells (madeCells dk.cells (n*10)) 172)):=by
  intro w
  have:=run_make w 94 172 i0 dk Tryz.underlying94 hi hz0 .i64 .i64 (n:Int) (n:Int) (by omega) (by omega) (by rw[hz2];omega) (by omega)
  rw[hz1,show(n:Int).toNat=n by omega] at this
  exact this
 obtain⟨mc,hmc⟩: ∃mc,madeCells dk.cells (n*10)=mc:=⟨_,rfl⟩
 rw[hmc] at hmk
 have HMC:=aa hmc
 clear hmc
 have HB06:=aa hb06
 have HBLK:=aa hblk
 have HS6:=aa hs6
 have HMB:=aa hmb
 have HB6:=aa hb6
 have HCL:=aa hcl
 clear hrp hb7 hC c0 c1 c2 c3 c4 c5 hi hz0 hz1 hz2 hb06 hblk hs6 hb6 hcl
 rw[hmb]
 clear hmb
 go_wp2_with (go_at_call 31;refine(HRP.out).mono ?_;rintro e w8 ⟨pr,rfl,r1,r2,b1,s8⟩;have HR8:=aa r2;have HD8:=aa r1;have HB8:=aa b1;have HS8:=aa s8;have hc8:=HC.out _ (bt HB06.out b1);have y1:=hc8.2.1;have m8:=(b1.block mb (by have:=HS6.out;omega)).trans HBLK.out;have x3:w8.cell? ⟨mb,3,none⟩=some (.slice none 0 0):=(oM m8 3);have x4:w8.cell? ⟨mb,4,none⟩=some (.slice none 0 0):=(oM m8 4);have f3:=GS m8 3;have f4:=GS m8 4;have hml:mb<w8.heap.size:=(World.block_lt_of_cell? w8 _ x3);have z4:=IF (v:= .slice (some ⟨pr,0,none⟩) P P) (o:= .cells mc 172) hml x4 f4;have n1: ¬mb=cb:=(by omega);have n2: ¬cb=mb:=(by omega);have n3: ¬mb=w8.heap.size:=(by have:=HS6.out;omega);have n4: ¬cb=w8.heap.size:=(by have:=HS6.out;omega);have z4a:=z4.1;have z4b:=z4.2;have HM8:=aa m8;clear r1 r2 b1 s8 hc8 m8 z4)
 go_ret
 obtain⟨WF,hWF⟩: ∃WF,((w8.setCell ⟨mb,3,none⟩ (.slice (some ⟨pr,0,none⟩) P P)).setCell ⟨mb,4,none⟩ (.slice (some ⟨w8.heap.size,0,none⟩) n n)).alloc (.cells mc 172)=WF:=⟨_,rfl⟩
 have sX:((w8.setCell ⟨mb,3,none⟩ (.slice (some ⟨pr,0,none⟩) P P)).setCell ⟨mb,4,none⟩ (.slice (some ⟨w8.heap.size,0,none⟩) n n)).heap.size=w8.heap.size:=by simp
 have sF:WF.heap.size=w8.heap.size+1:=by rw[←hWF];simp
 have kX: ∀k,k<w8.heap.size→WF.heap[k]? =((w8.setCell ⟨mb,3,none⟩ (.slice (some ⟨pr,0,none⟩) P P)).setCell ⟨mb,4,none⟩ (.slice (some ⟨w8.heap.size,0,none⟩) n n)).heap[k]? :=fun k hk=>by rw[←hWF];exact Below.heap_alloc _ _ _ (by rw[sX];exact hk)
 have k8: ∀k,k<w8.heap.size→k≠mb→WF.heap[k]? =w8.heap[k]? :=fun k hk hn=>by
  rw[kX k hk,Below.heap_setCell _ _ _ _ hn,Below.heap_setCell _ _ _ _ hn]
 have cX: ∀o,WF.cell? ⟨mb,o,none⟩=((w8.setCell ⟨mb,3,none⟩ (.slice (some ⟨pr,0,none⟩) P P)).setCell ⟨mb,4,none⟩ (.slice (some ⟨w8.heap.size,0,none⟩) n n)).cell? ⟨mb,o,none⟩:=fun o=>World.cell?_of_block (kX mb hml)
 have cO: ∀o,o≠3→o≠4→WF.cell? ⟨mb,o,none⟩=w8.cell? ⟨mb,o,none⟩:=fun o h3 h4=>by
  rw[cX o,aw _ (fun e=>h4 e.symm),aw _ (fun e=>h3 e.symm)]
 have q3:WF.cell? ⟨mb,3,none⟩=some (.slice (some ⟨pr,0,none⟩) P P):=by
  rw[cX 3,aw _ (by decide)]
  exact Gt.au _ _ _ _ x3
 have q4:WF.cell? ⟨mb,4,none⟩=some (.slice (some ⟨w8.heap.size,0,none⟩) n n):=by
  rw[cX 4]
  exact Gt.au _ _ _ _ ((aw w8 (by decide)).trans x4)
 have qf: ∀o,WF.frozen? ⟨mb,o,none⟩=false:=fun o=>by
  rw[World.frozen?_of_block (kX mb hml),aM,aM]
  exact GS HM8.out o
 have hs6:=HS6.out
 have hs8:=HS8.out
 have hd8:=HD8.out
 have hmb:=HMB.out
 have b5F:Below w5.heap.size w5 WF:=by
  rw[hmb,←hWF]
  have b8:Below mb w5 w8:=HB6.out.trans ((HB8.out).mono (by omega))
  exact(gK (gK b8 (a:=⟨mb,3,none⟩) (Nat.le_refl _) _) (a:=⟨mb,4,none⟩) (Nat.le_refl _) _).alloc (by rw[sX];omega) _
 have b4F:=bt HL5.out b5F
 have b3F:=bt HL4.out b4F
 have b2F:=bt HL3.out b3F
 have b1F:=bt HL2.out b2F
 have b0F:=bt HL1.out b1F
 have z1:=HL1.out.size
 have z2:=HL2.out.size
 have z3:=HL3.out.size
 have z4:=HL4.out.size
 have z5:=HL5.out.size
 have hz0:=HT0.out.pos
 have hcO: ∀o u,o≠3→o≠4→(#[.int .u64 (qu:Int),.int .u64 (ag:Int),.slice none 0 0,.slice none 0 0,.slice none 0 0,.pointer (some ⟨tb,0,none⟩),.pointer (some ⟨sb,0,none⟩),.pointer (some ⟨gb,0,none⟩),.pointer (some ⟨pb,0,none⟩),.pointer (some ⟨wb,0,none⟩)]:Array Value)[o]? =some u→WF.cell? ⟨mb,o,none⟩=some u:=fun o u h3 h4 hu=>by
  rw[cO o h3 h4,oM HM8.out o]
  exact hu
 have hPt:yY WF ⟨mb,tb,tg,sb,gb,pb,wb,wg,wm,pr,w8.heap.size,P,n⟩ P n q m qu ag W0.heap.size w1.heap.size w2.heap.size w3.heap.size w4.heap.size w5.heap.size:=by
  refine⟨hP,hn,⟨hqu.2,hag.2⟩,⟨z1,z2,z3,z4,z5⟩,hz0,HT0.out.below b0F,HR1.out.below b1F,HD1.out,⟨_,HR2.out.frame (dh (S:=fun _=>False) b2F).cb (fun q=>q) (fun k hk=>by cases hk)⟩,HD2.out,⟨_,_,HR3.out.below b3F,HD3.out⟩,⟨_,HR4.out.below b4F,HD4.out⟩,HR5.out.frame (dh (S:=fun _=>False) b5F).wh (fun _ _ q=>q),HD5.out,⟨by show w5.heap.size≤mb;omega,by show w5.heap.size≤pr;omega,by show w5.heap.size≤w8.heap.size;omega⟩,⟨by show mb≠pr;omega,by show mb≠w8.heap.size;omega,by show pr≠w8.heap.size;omega⟩,⟨by show mb<WF.heap.size;omega,by show pr<WF.heap.size;omega,by show w8.heap.size<WF.heap.size;omega,by omega⟩,?_,hcO 2 _ (by decide) (by decide) rfl,?_,?_⟩
  ·exact⟨hcO 0 _ (by decide) (by decide) rfl,hcO 1 _ (by decide) (by decide) rfl,q3,q4,hcO 5 _ (by decide) (by decide) rfl,hcO 6 _ (by decide) (by decide) rfl,hcO 7 _ (by decide) (by decide) rfl,hcO 8 _ (by decide) (by decide) rfl,hcO 9 _ (by decide) (by decide) rfl,qf⟩
  ·have hk:=k8 pr (by omega) (by omega)
   exact⟨fun i hi=>(HR8.out.at_ i hi).kept hk,fun o=>(World.frozen?_of_block hk).trans (HR8.out.fz o),HR8.out.ok⟩
  ·refine Bn.made ?_
   rw[HMC.out,←hWF]
   have:=World.alloc_heap_new ((w8.setCell ⟨mb,3,none⟩ (.slice (some ⟨pr,0,none⟩) P P)).setCell ⟨mb,4,none⟩ (.slice (some ⟨w8.heap.size,0,none⟩) n n)) (.cells mc 172)
   rw[sX] at this
   exact this
 obtain⟨p1,p2⟩:=hPt.is
 rw[hWF]
 exact⟨_,_,rfl,p1,fun k hk=>Nat.le_trans HB0.out.size (p2 k hk),bt HB0.out b0F⟩
section
variable {w w':World} {lab lab':Nat→Nat} {a:Ad} {P n q T:Nat} {M:Mc}
theorem Gf {len:Nat} {O R:Nat→Int} (h:Ex.Rt len O R):1≤len∧len≤64:=by
 obtain⟨y,h⟩:=h
 rcases h with ⟨_,e,_⟩|⟨_,_,j,_,_,_,e,_⟩|⟨_,_,_,_,_,e,_⟩|⟨h1,h2,_⟩
 ·cases e
 ·cases e
 ·cases e
 ·exact⟨h1,h2⟩
theorem FF:(Tryz.prog.info? 49).map (fun i=>(i.zero,i.size,i.bytes))=some (some (.slice none 0 0),1,24):=by kernel_rfl
theorem aD.zh (h:aD w lab a P n q T M) (ap:Option Addr) (len cap:Nat) (O R:Nat→Int) (hp:Ex.nJ w ap len O R) (hr:Ex.Rt len O R) (hf:M.pr.length<16):
  Calls Tryz.prog 36 #[.pointer (some ⟨a.m,0,none⟩),.slice ap len cap] w fun e w'=>e= .returned (.tuple #[.int .i64 (M.pr.length:Int),.int .i64 0])∧ay w w' lab a P n q T {M with pr:=M.pr++[⟨len,O,R⟩]}:=by
 have hle:=Gf hr
 obtain⟨i0,hi0,hz0,hz1,hz2⟩:=Cb.info_parts FF
 obtain⟨y,hc⟩:=hr
 have HK:=aa (Ex.qj w ap len cap (by omega) O R hp 0 y hc)
 have HM1:Hid (∀V,Below w.heap.size w V→ ∃ad cp vs,V.cell? ⟨a.m,2,none⟩=some (.slice ad M.pr.length cp)∧qt V lab (.slice ad M.pr.length cp) M.pr vs∧aD V lab a P n q T M∧Ex.nJ V ap len O R):=fun V hb=>by
  obtain⟨v,vs,e2,hps⟩:=(h.below hb).pg
  obtain⟨ad,cp,rfl⟩:=hps.form
  exact⟨ad,cp,vs,e2,hps,h.below hb,hp.below hb⟩
 have HR:=aa (show Ex.Rt len O R from⟨y,hc⟩)
 clear h hp hc
 have hf':((M.pr.length:Int)==16)=false:=by simp;omega
 have hf2:M.pr.length≠16:=by omega
 have HLE:=aa hle
 go_enter Tryz.func36,Tryz.ntmps36
 go_wp2_with (go_at_call 42;refine(HK.out).mono ?_;rintro e w1 ⟨rfl,hb⟩;have HB:=aa hb;obtain⟨ad,cp,vs,e2,hps,hi1,hpr1⟩:=HM1.out _ hb;have HPS:=aa hps;have HI1:=aa hi1;have HPR:=aa hpr1;have HE2:=aa e2;clear hb hps hi1 hpr1)
 have HCL:Hid (∀V,lk w1 V→Calls Tryz.prog 57 #[.slice ap len cap] V fun e w'=> ∃a1 d1,e= .returned (.slice a1 len d1)∧w'.ownsRow w1.heap.size 48 2 (.slice a1 len d1) len (Ex.aR O R len)∧Below w1.heap.size w1 w'):=fun V hl=>by
  refine(wi V ap len cap O R (HPR.out.below (hl.eI (Below.refl _ _))) HLE.out.1 HLE.out.2).mono ?_
  rintro e w' ⟨v',rfl,ho,hb⟩
  obtain⟨a1,d1,rfl⟩:=Cb.aH ho
  rw[hl.1] at ho
  exact⟨a1,d1,rfl,ho,hl.eI hb⟩
 have HAP:Hid (∀(w2:World) (a1:Option Addr) (d1:Nat),Below w1.heap.size w1 w2→Hid ((w2.alloc (.cells #[.slice a1 len d1] 49)).ownsRow 0 49 1 (.slice ad M.pr.length cp) M.pr.length vs)∧Hid (∀j u,([.slice a1 len d1]:List Value)[j]? =some u→(w2.alloc (.cells #[.slice a1 len d1] 49)).cell? ((⟨w2.heap.size,0,none⟩:Addr).add j)=some u)):=fun w2 a1 d1 hb=>by
  refine⟨aN HPS.out.row (fun k hk=> ?_),fun j u hu=> ?_⟩
  ·exact(bt hb ((Below.refl w2.heap.size w2).alloc (Nat.le_refl _) _)).block k (Pi.aq HPS.out.row hk).2.1
  ·match j,hu with
   |0,hu=>injection hu with hu;subst hu;exact aV _ _ _ 0 _ rfl
 clear HM1 HK
 refine wp_region_held_drew (S:=fun _=>True) (by kernel_rfl) ?_ (fun hHeld=> ?_)
 ·trivial
 refine aF 0 (v:= ?_) rfl ?v0 ?_
 case v0=>(intro w hSw;(try dsimp only at hSw);go_simp;try with_reducible rfl)
 try simp only[ao]
 refine aF 1 (v:= ?_) rfl ?v1 ?_
 case v1=>(intro w hSw;(try dsimp only at hSw);go_simp;try with_reducible rfl)
 try simp only[ao]
 refine aF 2 (v:= ?_) rfl ?v2 ?_
 case v2=>(intro w hSw;(try dsimp only at hSw);go_simp;try with_reducible rfl)
 try simp only[ao]
 refine aF 3 (v:= ?_) rfl ?v3 ?_
 case v3=>(intro w hSw;(try dsimp only at hSw);go_simp;try with_reducible rfl)
 try simp only[ao]
 refine aF 5 (v:= ?_) rfl ?v5 ?_
 case v5=>(intro w hSw;(try dsimp only at hSw);go_simp;try with_reducible rfl)
 try simp only[ao]
 refine wpAnyH_ready (rs:=[4,6]) (by kernel_rfl) (by simp) ?_
 refine AllReadyH.cons rfl (fun K hK=> ?_) (AllReadyH.cons rfl (fun K hK=> ?_) AllReadyH.nil)
 ·skip
  go_simp
  refine hK.out _ _ ?_ (fun hHeld=> ?_)
  ·trivial
  clear hK K
  try simp only[ao]
  refine bc 6 rfl (fun K hK=> ?_)
  go_simp
  go_at_call 57
  refine(HCL.out _ (by exact⟨rfl,rfl,rfl,rfl⟩)).mono ?_
  rintro e w2 ⟨a1,d1,rfl,ho1,hb2⟩
  have HO1:=aa ho1
  have HB2:=aa hb2
  have k2:=kc hb2 HE2.out
  have k3:=fun o=>kc (bt hb2 ((Below.refl w2.heap.size w2).alloc (Nat.le_refl _) o)) HE2.out
  clear ho1 hb2
  refine hK.out _ _ ?_ (fun hHeld=> ?_)
  ·trivial
  clear hK K
  try simp only[ao]
  refine bc 7 rfl (fun K hK=> ?_)
  go_simp
  refine hK.out _ _ ?_ (fun hHeld=> ?_)
  ·trivial
  clear hK K
  try simp only[ao]
  refine bc 8 rfl (fun K hK=> ?_)
  obtain⟨HOW,HNW⟩:=HAP.out w2 a1 d1 HB2.out
  refine bM _ (by rfl) _ _ _ (by rfl) 0 49 i0 (.slice none 0 0) 1 24 Tryz.underlying92 hi0 hz0 hz1 hz2 rfl (by omega) (.slice ad M.pr.length cp) M.pr.length vs (by rfl) HOW.out ⟨w2.heap.size,0,none⟩ 1 1 [.slice a1 len d1] (by rfl) rfl HNW.out (by intro u hu;simp at hu;subst hu;rfl) (by unfold maxLen;omega) (by omega) (Nat.zero_le _) ?_
  intro v1 w3 ho3 hg3 hat3
  obtain⟨y1,y2,hgo⟩:=HI1.out.sD HE2.out HPS.out (bt HB2.out ((Below.refl w2.heap.size w2).alloc (Nat.le_refl _) (.cells #[.slice a1 len d1] 49))) (p:=⟨len,O,R⟩) (u:= .slice a1 len d1) (aN HO1.out (fun k hk=>Below.heap_alloc _ _ _ (Pi.aq HO1.out hk).2.1)) HR.out ho3 hg3 hat3
  obtain⟨a3,d3,rfl⟩:=Cb.aH ho3
  have HGO:=aa hgo
  have y5:=Gt.au w3 ⟨a.m,2,none⟩ (.slice a3 (M.pr.length+1) d3) _ y1
  clear hgo ho3 hg3 hat3 HOW HNW
  refine hK.out _ _ ?_ (fun hHeld=> ?_)
  ·trivial
  clear hK K
  try simp only[ao]
  refine aF 9 (v:= ?_) rfl ?v9 ?_
  case v9=>(intro w hSw;(try dsimp only at hSw);go_simp;try with_reducible rfl)
  try simp only[ao]
  refine aF 10 (v:= ?_) rfl ?v10 ?_
  case v10=>(intro w hSw;(try dsimp only at hSw);go_simp;try with_reducible rfl)
  try simp only[ao]
  refine bc 11 rfl (fun K hK=> ?_)
  go_simp
  refine hK.out _ _ ?_ (fun hHeld=> ?_)
  ·trivial
  clear hK K
  try simp only[ao]
  refine wpAnyH_done (by kernel_rfl) ?_ _
  go_wp2
  go_ret2
  exact⟨by simp,ay.ahead HB.out HGO.out⟩
 ·skip
  go_simp
  go_at_call 57
  refine(HCL.out _ (by exact⟨rfl,rfl,rfl,rfl⟩)).mono ?_
  rintro e w2 ⟨a1,d1,rfl,ho1,hb2⟩
  have HO1:=aa ho1
  have HB2:=aa hb2
  have k2:=kc hb2 HE2.out
  have k3:=fun o=>kc (bt hb2 ((Below.refl w2.heap.size w2).alloc (Nat.le_refl _) o)) HE2.out
  clear ho1 hb2
  refine hK.out _ _ ?_ (fun hHeld=> ?_)
  ·trivial
  clear hK K
  try simp only[ao]
  refine wpAnyH_ready (rs:=[4,7]) (by kernel_rfl) (by simp) ?_
  refine AllReadyH.cons rfl (fun K hK=> ?_) (AllReadyH.cons rfl (fun K hK=> ?_) AllReadyH.nil)
  ·skip
   go_simp
   refine hK.out _ _ ?_ (fun hHeld=> ?_)
   ·trivial
   clear hK K
   try simp only[ao]
   refine bc 7 rfl (fun K hK=> ?_)
   go_simp
   refine hK.out _ _ ?_ (fun hHeld=> ?_)
   ·trivial
   clear hK K
   try simp only[ao]
   refine bc 8 rfl (fun K hK=> ?_)
   obtain⟨HOW,HNW⟩:=HAP.out w2 a1 d1 HB2.out
   refine bM _ (by rfl) _ _ _ (by rfl) 0 49 i0 (.slice none 0 0) 1 24 Tryz.underlying92 hi0 hz0 hz1 hz2 rfl (by omega) (.slice ad M.pr.length cp) M.pr.length vs (by rfl) HOW.out ⟨w2.heap.size,0,none⟩ 1 1 [.slice a1 len d1] (by rfl) rfl HNW.out (by intro u hu;simp at hu;subst hu;rfl) (by unfold maxLen;omega) (by omega) (Nat.zero_le _) ?_
   intro v1 w3 ho3 hg3 hat3
   obtain⟨y1,y2,hgo⟩:=HI1.out.sD HE2.out HPS.out (bt HB2.out ((Below.refl w2.heap.size w2).alloc (Nat.le_refl _) (.cells #[.slice a1 len d1] 49))) (p:=⟨len,O,R⟩) (u:= .slice a1 len d1) (aN HO1.out (fun k hk=>Below.heap_alloc _ _ _ (Pi.aq HO1.out hk).2.1)) HR.out ho3 hg3 hat3
   obtain⟨a3,d3,rfl⟩:=Cb.aH ho3
   have HGO:=aa hgo
   have y5:=Gt.au w3 ⟨a.m,2,none⟩ (.slice a3 (M.pr.length+1) d3) _ y1
   clear hgo ho3 hg3 hat3 HOW HNW
   refine hK.out _ _ ?_ (fun hHeld=> ?_)
   ·trivial
   clear hK K
   try simp only[ao]
   refine aF 9 (v:= ?_) rfl ?v9 ?_
   case v9=>(intro w hSw;(try dsimp only at hSw);go_simp;try with_reducible rfl)
   try simp only[ao]
   refine aF 10 (v:= ?_) rfl ?v10 ?_
   case v10=>(intro w hSw;(try dsimp only at hSw);go_simp;try with_reducible rfl)
   try simp only[ao]
   refine bc 11 rfl (fun K hK=> ?_)
   go_simp
   refine hK.out _ _ ?_ (fun hHeld=> ?_)
   ·trivial
   clear hK K
   try simp only[ao]
   refine wpAnyH_done (by kernel_rfl) ?_ _
   go_wp2
   go_ret2
   exact⟨by simp,ay.ahead HB.out HGO.out⟩
  ·skip
   go_simp
   refine hK.out _ _ ?_ (fun hHeld=> ?_)
   ·trivial
   clear hK K
   try simp only[ao]
   refine bc 4 rfl (fun K hK=> ?_)
   go_simp
   refine hK.out _ _ ?_ (fun hHeld=> ?_)
   ·trivial
   clear hK K
   try simp only[ao]
   refine bc 8 rfl (fun K hK=> ?_)
   obtain⟨HOW,HNW⟩:=HAP.out w2 a1 d1 HB2.out
   refine bM _ (by rfl) _ _ _ (by rfl) 0 49 i0 (.slice none 0 0) 1 24 Tryz.underlying92 hi0 hz0 hz1 hz2 rfl (by omega) (.slice ad M.pr.length cp) M.pr.length vs (by rfl) HOW.out ⟨w2.heap.size,0,none⟩ 1 1 [.slice a1 len d1] (by rfl) rfl HNW.out (by intro u hu;simp at hu;subst hu;rfl) (by unfold maxLen;omega) (by omega) (Nat.zero_le _) ?_
   intro v1 w3 ho3 hg3 hat3
   obtain⟨y1,y2,hgo⟩:=HI1.out.sD HE2.out HPS.out (bt HB2.out ((Below.refl w2.heap.size w2).alloc (Nat.le_refl _) (.cells #[.slice a1 len d1] 49))) (p:=⟨len,O,R⟩) (u:= .slice a1 len d1) (aN HO1.out (fun k hk=>Below.heap_alloc _ _ _ (Pi.aq HO1.out hk).2.1)) HR.out ho3 hg3 hat3
   obtain⟨a3,d3,rfl⟩:=Cb.aH ho3
   have HGO:=aa hgo
   have y5:=Gt.au w3 ⟨a.m,2,none⟩ (.slice a3 (M.pr.length+1) d3) _ y1
   clear hgo ho3 hg3 hat3 HOW HNW
   refine hK.out _ _ ?_ (fun hHeld=> ?_)
   ·trivial
   clear hK K
   try simp only[ao]
   refine aF 9 (v:= ?_) rfl ?v9 ?_
   case v9=>(intro w hSw;(try dsimp only at hSw);go_simp;try with_reducible rfl)
   try simp only[ao]
   refine aF 10 (v:= ?_) rfl ?v10 ?_
   case v10=>(intro w hSw;(try dsimp only at hSw);go_simp;try with_reducible rfl)
   try simp only[ao]
   refine bc 11 rfl (fun K hK=> ?_)
   go_simp
   refine hK.out _ _ ?_ (fun hHeld=> ?_)
   ·trivial
   clear hK K
   try simp only[ao]
   refine wpAnyH_done (by kernel_rfl) ?_ _
   go_wp2
   go_ret2
   exact⟨by simp,ay.ahead HB.out HGO.out⟩
end
end Go.Proofs.YtdbailcdlngemaaGreatDoor

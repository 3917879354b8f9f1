/- YtdbailcdlngemaaGreatDoorGp: of the texts Ba1 Ba2 Ba3 Ba4 Ba5 Ba6 Ba7 Ba8 Ba9 Ba10 Ba11 Ba12 what is wanted. -/
import Derived.Test.YtdbailcdlngemaaGreatDoorGg
import Derived.Test.YtdbailcdlngemaaGreatDoorGj
import Derived.Test.YtdbailcdlngemaaGreatDoorGk
import Derived.Test.YtdbailcdlngemaaGreatDoorGl
import Derived.Test.YtdbailcdlngemaaGreatDoorGa
import Derived.BigRegion
set_option maxHeartbeats 16000000
set_option maxRecDepth 100000
set_option linter.unusedVariables false
set_option linter.unusedSimpArgs false
namespace Go.Proofs.YtdbailcdlngemaaGreatDoor
open Go.RowKit
structure Tr where
 p:Int
 g:Nat
 pg:Int
 lv:Nat
 lf:Nat
 sv:Int
 pc:Int
 ia:Int
 il:Int
 sn:Nat
def Ek:Tr:=⟨0,0,0,0,0,0,0,0,0,0⟩
structure Tr.ok (t:Tr):Prop where
 g:t.g<4294967296
 lv:t.lv<256
 lf:t.lf<256
 il:t.il<9223372036854775808
 sn:t.sn<18446744073709551616
structure Pc where
 r:Int
 s:Nat
 m:Bool
structure Pm where
 len:Nat
 O:Nat→Int
 R:Nat→Int
structure Mc where
 qu:Nat
 ag:Nat
 pr:List Pm
 pc:Nat→Pc
 th:Nat→Tr
 G:Nat→Nat
 S:Nat→Nat
 sv:List Cb.fU
 gr:Pi.Md
 pl:List (List En)
 nw:Nat
 wh:List Wh.It
structure Ad where
 m:Nat
 tb:Nat
 tg:Nat
 sb:Nat
 gb:Nat
 pb:Nat
 wb:Nat
 wg:Nat
 wm:Nat
 pr:Nat
 th:Nat
 xp:Nat
 xt:Nat
section
variable {S:Nat→Prop} {w w' w'':World}
theorem Fr.gt (h:Fr S w w'):Gt.Fr S w w':=⟨h.os,h.tape,h.output,h.size,h.block⟩
theorem Fr.cb (h:Fr S w w'):Cb.Fr S w w':=⟨h.os,h.tape,h.output,h.size,h.block⟩
theorem Fr.pi (h:Fr S w w'):Pi.Fr S w w':=⟨h.os,h.tape,h.output,h.size,h.block⟩
theorem Fr.wh (h:Fr S w w'):Wh.Fr S w w':=⟨h.os,h.tape,h.output,h.size,h.block⟩
theorem FY (h:Gt.Fr S w w'):Fr S w w':=⟨h.os,h.tape,h.output,h.size,h.block⟩
theorem Hh (h:Cb.Fr S w w'):Fr S w w':=⟨h.os,h.tape,h.output,h.size,h.block⟩
theorem Hu (h:Pi.Fr S w w'):Fr S w w':=⟨h.os,h.tape,h.output,h.size,h.block⟩
theorem dh (h:Below w.heap.size w w'):Fr S w w':=⟨h.os,h.tape,h.output,h.size,fun k hk _=>h.block k hk⟩
theorem Fr.to {S':Nat→Prop} (h:Fr S w w') (hs: ∀k,k<w.heap.size→S k→S' k):Fr S' w w':=⟨h.os,h.tape,h.output,h.size,fun k hk hn=>h.block k hk (fun q=>hn (hs k hk q))⟩
theorem Fr.then {S':Nat→Prop} (h:Fr S w w') (h':Fr S' w' w'') (hs: ∀k,k<w.heap.size→S' k→S k):Fr S w w'':=
 ⟨h'.os.trans h.os,h'.tape.trans h.tape,h'.output.trans h.output,Nat.le_trans h.size h'.size,fun k hk hn=>(h'.block k (Nat.lt_of_lt_of_le hk h.size) (fun q=>hn (hs k hk q))).trans (h.block k hk hn)⟩
theorem Fr.cellAt (h:Fr S w w') {b o:Nat} (hk:b<w.heap.size) (hn: ¬S b):w'.cell? ⟨b,o,none⟩=w.cell? ⟨b,o,none⟩:=World.cell?_of_block (h.block _ hk hn)
end
structure bo (w:World) (b o:Nat) (t:Tr):Prop where
 c0:w.cell? ⟨b,o,none⟩=some (.int .i64 t.p)
 c1:w.cell? ⟨b,o+1,none⟩=some (.int .u32 (t.g:Int))
 c2:w.cell? ⟨b,o+2,none⟩=some (.int .i64 t.pg)
 c3:w.cell? ⟨b,o+3,none⟩=some (.int .u8 (t.lv:Int))
 c4:w.cell? ⟨b,o+4,none⟩=some (.int .u8 (t.lf:Int))
 c5:w.cell? ⟨b,o+5,none⟩=some (.int .i64 t.sv)
 c6:w.cell? ⟨b,o+6,none⟩=some (.int .i64 t.pc)
 c7:w.cell? ⟨b,o+7,none⟩=some (.int .i64 t.ia)
 c8:w.cell? ⟨b,o+8,none⟩=some (.int .i64 t.il)
 c9:w.cell? ⟨b,o+9,none⟩=some (.int .u64 (t.sn:Int))
structure fM (w:World) (b o:Nat) (x:Pc):Prop where
 c0:w.cell? ⟨b,o,none⟩=some (.int .i64 x.r)
 c1:w.cell? ⟨b,o+1,none⟩=some (.int .u64 (x.s:Int))
 c2:w.cell? ⟨b,o+2,none⟩=some (.bool x.m)
theorem bo.kept {w w':World} {b o:Nat} {t:Tr} (h:bo w b o t) (hb:w'.heap[b]? =w.heap[b]?):bo w' b o t:=
 have e: ∀o,w'.cell? ⟨b,o,none⟩=w.cell? ⟨b,o,none⟩:=fun _=>World.cell?_of_block hb
 ⟨(e _).trans h.c0,(e _).trans h.c1,(e _).trans h.c2,(e _).trans h.c3,(e _).trans h.c4,(e _).trans h.c5,(e _).trans h.c6,(e _).trans h.c7,(e _).trans h.c8,(e _).trans h.c9⟩
theorem fM.kept {w w':World} {b o:Nat} {t:Pc} (h:fM w b o t) (hb:w'.heap[b]? =w.heap[b]?):fM w' b o t:=
 have e: ∀o,w'.cell? ⟨b,o,none⟩=w.cell? ⟨b,o,none⟩:=fun _=>World.cell?_of_block hb
 ⟨(e _).trans h.c0,(e _).trans h.c1,(e _).trans h.c2⟩
structure Core (w:World) (a:Ad) (P n qu ag:Nat):Prop where
 c0:w.cell? ⟨a.m,0,none⟩=some (.int .u64 (qu:Int))
 c1:w.cell? ⟨a.m,1,none⟩=some (.int .u64 (ag:Int))
 c3:w.cell? ⟨a.m,3,none⟩=some (.slice (some ⟨a.pr,0,none⟩) P a.xp)
 c4:w.cell? ⟨a.m,4,none⟩=some (.slice (some ⟨a.th,0,none⟩) n a.xt)
 c5:w.cell? ⟨a.m,5,none⟩=some (.pointer (some ⟨a.tb,0,none⟩))
 c6:w.cell? ⟨a.m,6,none⟩=some (.pointer (some ⟨a.sb,0,none⟩))
 c7:w.cell? ⟨a.m,7,none⟩=some (.pointer (some ⟨a.gb,0,none⟩))
 c8:w.cell? ⟨a.m,8,none⟩=some (.pointer (some ⟨a.pb,0,none⟩))
 c9:w.cell? ⟨a.m,9,none⟩=some (.pointer (some ⟨a.wb,0,none⟩))
 fz: ∀o,w.frozen? ⟨a.m,o,none⟩=false
theorem Core.kept {w w':World} {a:Ad} {P n qu ag:Nat} (h:Core w a P n qu ag) (hb:w'.heap[a.m]? =w.heap[a.m]?):Core w' a P n qu ag:=
 have e: ∀o,w'.cell? ⟨a.m,o,none⟩=w.cell? ⟨a.m,o,none⟩:=fun _=>World.cell?_of_block hb
 ⟨(e _).trans h.c0,(e _).trans h.c1,(e _).trans h.c3,(e _).trans h.c4,(e _).trans h.c5,(e _).trans h.c6,(e _).trans h.c7,(e _).trans h.c8,(e _).trans h.c9,fun o=>(World.frozen?_of_block hb).trans (h.fz o)⟩
structure DN (w:World) (b P:Nat) (f:Nat→Pc):Prop where
 at_: ∀i,i<P→fM w b (i*3) (f i)
 fz: ∀o,w.frozen? ⟨b,o,none⟩=false
 ok: ∀i,i<P→(f i).s<18446744073709551616
structure Bn (w:World) (b n:Nat) (f:Nat→Tr):Prop where
 at_: ∀i,i<n→bo w b (i*10) (f i)
 fz: ∀o,w.frozen? ⟨b,o,none⟩=false
 ok: ∀i,i<n→(f i).ok
structure qt (w:World) (lab:Nat→Nat) (v:Value) (l:List Pm) (vs:List Value):Prop where
 row:w.ownsRow 0 49 1 v l.length vs
 len:vs.length=l.length
 at_: ∀(i:Nat) (p:Pm) (u:Value),l[i]? =some p→vs[i]? =some u→w.ownsRow 0 48 2 u p.len (Ex.aR p.O p.R p.len)∧ ∀k,u.ownBlock=some k→lab k=2
 lb: ∀k,v.ownBlock=some k→lab k=2
 ok: ∀p∈l,Ex.Rt p.len p.O p.R
theorem aN {w w':World} {base:Nat} {e:TypeId} {size:Nat} {v:Value} {n:Nat} {xs:List Value} (h:w.ownsRow base e size v n xs) (hb: ∀k,v.ownBlock=some k→w'.heap[k]? =w.heap[k]?):w'.ownsRow base e size v n xs:=by
 obtain⟨h1,h2|⟨g,cap,cells,hv,h3,h4,h5⟩⟩:=h
 ·exact⟨h1,.inl h2⟩
 ·exact⟨h1,.inr ⟨g,cap,cells,hv,h3,(hb g (by rw[hv];rfl)).trans h4,h5⟩⟩
theorem qt.kept {w w':World} {lab lab':Nat→Nat} {v:Value} {l:List Pm} {vs:List Value} (h:qt w lab v l vs) (hb: ∀k,lab k=2→w'.heap[k]? =w.heap[k]?) (hl: ∀k,lab k=2→lab' k=2):qt w' lab' v l vs:=
 ⟨aN h.row (fun k hk=>hb k (h.lb k hk)),h.len,fun i p u h1 h2=>⟨aN (h.at_ i p u h1 h2).1 (fun k hk=>hb k ((h.at_ i p u h1 h2).2 k hk)),fun k hk=>hl k ((h.at_ i p u h1 h2).2 k hk)⟩,fun k hk=>hl k (h.lb k hk),h.ok⟩
structure aD (w:World) (lab:Nat→Nat) (a:Ad) (P n q T:Nat) (M:Mc):Prop where
 hP:1≤P∧P≤64
 hn:1≤n∧n≤1024
 hq:M.qu<18446744073709551616∧M.ag<18446744073709551616
 lt: ∀k,lab k≠0→k<w.heap.size
 l0:lab 0=0
 lm:lab a.m=1
 co:Core w a P n M.qu M.ag
 pg: ∃v vs,w.cell? ⟨a.m,2,none⟩=some v∧qt w lab v M.pr vs
 lpr:lab a.pr=3
 pc:DN w a.pr P M.pc
 lth:lab a.th=4
 th:Bn w a.th n M.th
 ltb:lab a.tb=5∧lab a.tg=5
 tb:Gt.aJ w a.tb a.tg n M.G M.S
 t0:Gt.ju w
 lsb:lab a.sb=6
 sv: ∃base v,Cb.fR w base a.sb P v M.sv∧ ∀k,v.ownBlock=some k→lab k=6
 gr: ∃b O,Pi.PG w b O a.gb M.gr∧ ∀k,O k→lab k=7
 pl: ∃O,PQ w O a.pb n P q T M.pl∧ ∀k,O k→lab k=8
 lw: ∀k,Wh.O3 a.wb a.wg a.wm k→lab k=9
 wh:Wh.AX w a.wb a.wg a.wm n M.nw M.wh
section
variable {w w':World} {lab:Nat→Nat} {a:Ad} {P n q T:Nat} {M:Mc}
theorem aD.frame {S:Nat→Prop} (h:aD w lab a P n q T M) (hf:Fr S w w') (hS: ∀k,lab k≠0→ ¬S k) (h0: ¬S 0):aD w' lab a P n q T M:=by
 have hb: ∀k,lab k≠0→w'.heap[k]? =w.heap[k]? :=fun k hk=>hf.block k (h.lt k hk) (hS k hk)
 have bm:=hb a.m (by rw[h.lm];decide)
 have bp:=hb a.pr (by rw[h.lpr];decide)
 have bt:=hb a.th (by rw[h.lth];decide)
 have n5: ∀k,lab k=5→ ¬S k:=fun k e=>hS k (by rw[e];decide)
 have n6: ∀k,lab k=6→ ¬S k:=fun k e=>hS k (by rw[e];decide)
 have n7: ∀k,lab k=7→ ¬S k:=fun k e=>hS k (by rw[e];decide)
 have n8: ∀k,lab k=8→ ¬S k:=fun k e=>hS k (by rw[e];decide)
 have n9: ∀k,lab k=9→ ¬S k:=fun k e=>hS k (by rw[e];decide)
 refine⟨h.hP,h.hn,h.hq,fun k hk=>Nat.lt_of_lt_of_le (h.lt k hk) hf.size,h.l0,h.lm,h.co.kept bm,?_,h.lpr,?_,h.lth,?_,h.ltb,h.tb.frame hf.gt (n5 _ h.ltb.1) (n5 _ h.ltb.2),h.t0.frame hf.gt h0,h.lsb,?_,?_,?_,h.lw,h.wh.frame hf.wh (fun k hk=>n9 k (h.lw k hk))⟩
 ·obtain⟨v,vs,e,hp⟩:=h.pg
  exact⟨v,vs,(World.cell?_of_block bm).trans e,hp.kept (fun k hk=>hb k (by rw[hk];decide)) (fun _ e=>e)⟩
 ·exact⟨fun i hi=>(h.pc.at_ i hi).kept bp,fun o=>(World.frozen?_of_block bp).trans (h.pc.fz o),h.pc.ok⟩
 ·exact⟨fun i hi=>(h.th.at_ i hi).kept bt,fun o=>(World.frozen?_of_block bt).trans (h.th.fz o),h.th.ok⟩
 ·obtain⟨base,v,hp,hl⟩:=h.sv
  exact⟨base,v,hp.frame hf.cb (n6 _ h.lsb) (fun k hk=>n6 k (hl k hk)),hl⟩
 ·obtain⟨b,O,hp,hl⟩:=h.gr
  exact⟨b,O,hp.frame hf.pi (fun k hk=>n7 k (hl k hk)),hl⟩
 ·obtain⟨O,hp,hl⟩:=h.pl
  exact⟨O,hp.frame hf (fun k hk=>n8 k (hl k hk)),hl⟩
theorem aD.below (h:aD w lab a P n q T M) (hb:Below w.heap.size w w'):aD w' lab a P n q T M:=
 h.frame (dh (S:=fun _=>False) hb) (fun _ _ q=>q) (fun q=>q)
end
structure oO (w w':World) (lab lab':Nat→Nat):Prop where
 old: ∀k,k<w.heap.size→lab' k=lab k
 lt: ∀k,lab' k≠0→k<w'.heap.size
section
variable {w w' w'':World} {lab lab' lab'':Nat→Nat} {a:Ad} {P n q T T':Nat} {M:Mc}
theorem aD.same (h:aD w lab a P n q T M) {S:Nat→Prop} (hf:Fr S w w'):oO w w' lab lab:=⟨fun _ _=>rfl,fun k hk=>Nat.lt_of_lt_of_le (h.lt k hk) hf.size⟩
theorem aD.l (h:aD w lab a P n q T M) (hl:oO w w' lab lab') {k i:Nat} (e:lab k=i) (hi:i≠0):lab' k=i:=by
 rw[hl.old k (h.lt k (by rw[e];exact hi)),e]
theorem aD.z (h:aD w lab a P n q T M) (hl:oO w w' lab lab'):lab' 0=0:=by rw[hl.old 0 h.t0.pos,h.l0]
theorem aD.DQ (h:aD w lab a P n q T M) (hl:oO w w' lab lab') (hf:Fr (fun k=>lab k=5) w w') {G' S':Nat→Nat} (hr:Gt.aJ w' a.tb a.tg n G' S'):aD w' lab' a P n q T {M with G:=G',S:=S'}:=by
 have hb: ∀k,lab k≠0→lab k≠5→w'.heap[k]? =w.heap[k]? :=fun k hk hi=>hf.block k (h.lt k hk) hi
 have bm:=hb a.m (by rw[h.lm];decide) (by rw[h.lm];decide)
 have bp:=hb a.pr (by rw[h.lpr];decide) (by rw[h.lpr];decide)
 have bt:=hb a.th (by rw[h.lth];decide) (by rw[h.lth];decide)
 have ne: ∀k j,lab k=j→j≠5→ ¬lab k=5:=fun k j e hj q=>hj (e.symm.trans q)
 refine⟨h.hP,h.hn,h.hq,hl.lt,h.z hl,h.l hl h.lm (by decide),h.co.kept bm,?_,h.l hl h.lpr (by decide),⟨fun i hi=>(h.pc.at_ i hi).kept bp,fun o=>(World.frozen?_of_block bp).trans (h.pc.fz o),h.pc.ok⟩,h.l hl h.lth (by decide),⟨fun i hi=>(h.th.at_ i hi).kept bt,fun o=>(World.frozen?_of_block bt).trans (h.th.fz o),h.th.ok⟩,⟨h.l hl h.ltb.1 (by decide),h.l hl h.ltb.2 (by decide)⟩,hr,h.t0.frame hf.gt (by rw[h.l0];decide),h.l hl h.lsb (by decide),?_,?_,?_,fun k hk=>h.l hl (h.lw k hk) (by decide),h.wh.frame hf.wh (fun k hk=>ne _ _ (h.lw k hk) (by decide))⟩
 ·obtain⟨v,vs,e,hp⟩:=h.pg
  exact⟨v,vs,(World.cell?_of_block bm).trans e,hp.kept (fun k hk=>hb k (by rw[hk];decide) (by rw[hk];decide)) (fun k e=>h.l hl e (by decide))⟩
 ·obtain⟨base,v,hp,hq⟩:=h.sv
  exact⟨base,v,hp.frame hf.cb (ne _ _ h.lsb (by decide)) (fun k hk=>ne _ _ (hq k hk) (by decide)),fun k hk=>h.l hl (hq k hk) (by decide)⟩
 ·obtain⟨b,O,hp,hq⟩:=h.gr
  exact⟨b,O,hp.frame hf.pi (fun k hk=>ne _ _ (hq k hk) (by decide)),fun k hk=>h.l hl (hq k hk) (by decide)⟩
 ·obtain⟨O,hp,hq⟩:=h.pl
  exact⟨O,hp.frame hf (fun k hk=>ne _ _ (hq k hk) (by decide)),fun k hk=>h.l hl (hq k hk) (by decide)⟩
theorem aD.Gm (h:aD w lab a P n q T M) (hl:oO w w' lab lab') (hf:Fr (fun k=>lab k=6) w w') {L':List Cb.fU} {base:Nat} {v:Value} (hr:Cb.fR w' base a.sb P v L') (hv: ∀k,v.ownBlock=some k→lab' k=6):aD w' lab' a P n q T {M with sv:=L'}:=by
 have hb: ∀k,lab k≠0→lab k≠6→w'.heap[k]? =w.heap[k]? :=fun k hk hi=>hf.block k (h.lt k hk) hi
 have bm:=hb a.m (by rw[h.lm];decide) (by rw[h.lm];decide)
 have bp:=hb a.pr (by rw[h.lpr];decide) (by rw[h.lpr];decide)
 have bt:=hb a.th (by rw[h.lth];decide) (by rw[h.lth];decide)
 have ne: ∀k j,lab k=j→j≠6→ ¬lab k=6:=fun k j e hj q=>hj (e.symm.trans q)
 refine⟨h.hP,h.hn,h.hq,hl.lt,h.z hl,h.l hl h.lm (by decide),h.co.kept bm,?_,h.l hl h.lpr (by decide),⟨fun i hi=>(h.pc.at_ i hi).kept bp,fun o=>(World.frozen?_of_block bp).trans (h.pc.fz o),h.pc.ok⟩,h.l hl h.lth (by decide),⟨fun i hi=>(h.th.at_ i hi).kept bt,fun o=>(World.frozen?_of_block bt).trans (h.th.fz o),h.th.ok⟩,⟨h.l hl h.ltb.1 (by decide),h.l hl h.ltb.2 (by decide)⟩,h.tb.frame hf.gt (ne _ _ h.ltb.1 (by decide)) (ne _ _ h.ltb.2 (by decide)),h.t0.frame hf.gt (by rw[h.l0];decide),h.l hl h.lsb (by decide),⟨_,_,hr,hv⟩,?_,?_,fun k hk=>h.l hl (h.lw k hk) (by decide),h.wh.frame hf.wh (fun k hk=>ne _ _ (h.lw k hk) (by decide))⟩
 ·obtain⟨v,vs,e,hp⟩:=h.pg
  exact⟨v,vs,(World.cell?_of_block bm).trans e,hp.kept (fun k hk=>hb k (by rw[hk];decide) (by rw[hk];decide)) (fun k e=>h.l hl e (by decide))⟩
 ·obtain⟨b,O,hp,hq⟩:=h.gr
  exact⟨b,O,hp.frame hf.pi (fun k hk=>ne _ _ (hq k hk) (by decide)),fun k hk=>h.l hl (hq k hk) (by decide)⟩
 ·obtain⟨O,hp,hq⟩:=h.pl
  exact⟨O,hp.frame hf (fun k hk=>ne _ _ (hq k hk) (by decide)),fun k hk=>h.l hl (hq k hk) (by decide)⟩
theorem aD.G8 (h:aD w lab a P n q T M) (hl:oO w w' lab lab') (hf:Fr (fun k=>lab k=7) w w') {g':Pi.Md} {b:Nat} {O:Nat→Prop} (hr:Pi.PG w' b O a.gb g') (ho: ∀k,O k→lab' k=7):aD w' lab' a P n q T {M with gr:=g'}:=by
 have hb: ∀k,lab k≠0→lab k≠7→w'.heap[k]? =w.heap[k]? :=fun k hk hi=>hf.block k (h.lt k hk) hi
 have bm:=hb a.m (by rw[h.lm];decide) (by rw[h.lm];decide)
 have bp:=hb a.pr (by rw[h.lpr];decide) (by rw[h.lpr];decide)
 have bt:=hb a.th (by rw[h.lth];decide) (by rw[h.lth];decide)
 have ne: ∀k j,lab k=j→j≠7→ ¬lab k=7:=fun k j e hj q=>hj (e.symm.trans q)
 refine⟨h.hP,h.hn,h.hq,hl.lt,h.z hl,h.l hl h.lm (by decide),h.co.kept bm,?_,h.l hl h.lpr (by decide),⟨fun i hi=>(h.pc.at_ i hi).kept bp,fun o=>(World.frozen?_of_block bp).trans (h.pc.fz o),h.pc.ok⟩,h.l hl h.lth (by decide),⟨fun i hi=>(h.th.at_ i hi).kept bt,fun o=>(World.frozen?_of_block bt).trans (h.th.fz o),h.th.ok⟩,⟨h.l hl h.ltb.1 (by decide),h.l hl h.ltb.2 (by decide)⟩,h.tb.frame hf.gt (ne _ _ h.ltb.1 (by decide)) (ne _ _ h.ltb.2 (by decide)),h.t0.frame hf.gt (by rw[h.l0];decide),h.l hl h.lsb (by decide),?_,⟨_,_,hr,ho⟩,?_,fun k hk=>h.l hl (h.lw k hk) (by decide),h.wh.frame hf.wh (fun k hk=>ne _ _ (h.lw k hk) (by decide))⟩
 ·obtain⟨v,vs,e,hp⟩:=h.pg
  exact⟨v,vs,(World.cell?_of_block bm).trans e,hp.kept (fun k hk=>hb k (by rw[hk];decide) (by rw[hk];decide)) (fun k e=>h.l hl e (by decide))⟩
 ·obtain⟨base,v,hp,hq⟩:=h.sv
  exact⟨base,v,hp.frame hf.cb (ne _ _ h.lsb (by decide)) (fun k hk=>ne _ _ (hq k hk) (by decide)),fun k hk=>h.l hl (hq k hk) (by decide)⟩
 ·obtain⟨O,hp,hq⟩:=h.pl
  exact⟨O,hp.frame hf (fun k hk=>ne _ _ (hq k hk) (by decide)),fun k hk=>h.l hl (hq k hk) (by decide)⟩
theorem aD.Fh (h:aD w lab a P n q T M) (hl:oO w w' lab lab') (hf:Fr (fun k=>lab k=8) w w') {l':List (List En)} {O:Nat→Prop} (hr:PQ w' O a.pb n P q T' l') (ho: ∀k,O k→lab' k=8):aD w' lab' a P n q T' {M with pl:=l'}:=by
 have hb: ∀k,lab k≠0→lab k≠8→w'.heap[k]? =w.heap[k]? :=fun k hk hi=>hf.block k (h.lt k hk) hi
 have bm:=hb a.m (by rw[h.lm];decide) (by rw[h.lm];decide)
 have bp:=hb a.pr (by rw[h.lpr];decide) (by rw[h.lpr];decide)
 have bt:=hb a.th (by rw[h.lth];decide) (by rw[h.lth];decide)
 have ne: ∀k j,lab k=j→j≠8→ ¬lab k=8:=fun k j e hj q=>hj (e.symm.trans q)
 refine⟨h.hP,h.hn,h.hq,hl.lt,h.z hl,h.l hl h.lm (by decide),h.co.kept bm,?_,h.l hl h.lpr (by decide),⟨fun i hi=>(h.pc.at_ i hi).kept bp,fun o=>(World.frozen?_of_block bp).trans (h.pc.fz o),h.pc.ok⟩,h.l hl h.lth (by decide),⟨fun i hi=>(h.th.at_ i hi).kept bt,fun o=>(World.frozen?_of_block bt).trans (h.th.fz o),h.th.ok⟩,⟨h.l hl h.ltb.1 (by decide),h.l hl h.ltb.2 (by decide)⟩,h.tb.frame hf.gt (ne _ _ h.ltb.1 (by decide)) (ne _ _ h.ltb.2 (by decide)),h.t0.frame hf.gt (by rw[h.l0];decide),h.l hl h.lsb (by decide),?_,?_,⟨_,hr,ho⟩,fun k hk=>h.l hl (h.lw k hk) (by decide),h.wh.frame hf.wh (fun k hk=>ne _ _ (h.lw k hk) (by decide))⟩
 ·obtain⟨v,vs,e,hp⟩:=h.pg
  exact⟨v,vs,(World.cell?_of_block bm).trans e,hp.kept (fun k hk=>hb k (by rw[hk];decide) (by rw[hk];decide)) (fun k e=>h.l hl e (by decide))⟩
 ·obtain⟨base,v,hp,hq⟩:=h.sv
  exact⟨base,v,hp.frame hf.cb (ne _ _ h.lsb (by decide)) (fun k hk=>ne _ _ (hq k hk) (by decide)),fun k hk=>h.l hl (hq k hk) (by decide)⟩
 ·obtain⟨b,O,hp,hq⟩:=h.gr
  exact⟨b,O,hp.frame hf.pi (fun k hk=>ne _ _ (hq k hk) (by decide)),fun k hk=>h.l hl (hq k hk) (by decide)⟩
theorem aD.Hy (h:aD w lab a P n q T M) (hl:oO w w' lab lab') (hf:Fr (fun k=>lab k=3) w w') {f:Nat→Pc} (hr:DN w' a.pr P f):aD w' lab' a P n q T {M with pc:=f}:=by
 have hb: ∀k,lab k≠0→lab k≠3→w'.heap[k]? =w.heap[k]? :=fun k hk hi=>hf.block k (h.lt k hk) hi
 have bm:=hb a.m (by rw[h.lm];decide) (by rw[h.lm];decide)
 have bt:=hb a.th (by rw[h.lth];decide) (by rw[h.lth];decide)
 have ne: ∀k j,lab k=j→j≠3→ ¬lab k=3:=fun k j e hj q=>hj (e.symm.trans q)
 refine⟨h.hP,h.hn,h.hq,hl.lt,h.z hl,h.l hl h.lm (by decide),h.co.kept bm,?_,h.l hl h.lpr (by decide),hr,h.l hl h.lth (by decide),⟨fun i hi=>(h.th.at_ i hi).kept bt,fun o=>(World.frozen?_of_block bt).trans (h.th.fz o),h.th.ok⟩,⟨h.l hl h.ltb.1 (by decide),h.l hl h.ltb.2 (by decide)⟩,h.tb.frame hf.gt (ne _ _ h.ltb.1 (by decide)) (ne _ _ h.ltb.2 (by decide)),h.t0.frame hf.gt (by rw[h.l0];decide),h.l hl h.lsb (by decide),?_,?_,?_,fun k hk=>h.l hl (h.lw k hk) (by decide),h.wh.frame hf.wh (fun k hk=>ne _ _ (h.lw k hk) (by decide))⟩
 ·obtain⟨v,vs,e,hp⟩:=h.pg
  exact⟨v,vs,(World.cell?_of_block bm).trans e,hp.kept (fun k hk=>hb k (by rw[hk];decide) (by rw[hk];decide)) (fun k e=>h.l hl e (by decide))⟩
 ·obtain⟨base,v,hp,hq⟩:=h.sv
  exact⟨base,v,hp.frame hf.cb (ne _ _ h.lsb (by decide)) (fun k hk=>ne _ _ (hq k hk) (by decide)),fun k hk=>h.l hl (hq k hk) (by decide)⟩
 ·obtain⟨b,O,hp,hq⟩:=h.gr
  exact⟨b,O,hp.frame hf.pi (fun k hk=>ne _ _ (hq k hk) (by decide)),fun k hk=>h.l hl (hq k hk) (by decide)⟩
 ·obtain⟨O,hp,hq⟩:=h.pl
  exact⟨O,hp.frame hf (fun k hk=>ne _ _ (hq k hk) (by decide)),fun k hk=>h.l hl (hq k hk) (by decide)⟩
theorem aD.Ew (h:aD w lab a P n q T M) (hl:oO w w' lab lab') (hf:Fr (fun k=>lab k=4) w w') {f:Nat→Tr} (hr:Bn w' a.th n f):aD w' lab' a P n q T {M with th:=f}:=by
 have hb: ∀k,lab k≠0→lab k≠4→w'.heap[k]? =w.heap[k]? :=fun k hk hi=>hf.block k (h.lt k hk) hi
 have bm:=hb a.m (by rw[h.lm];decide) (by rw[h.lm];decide)
 have bp:=hb a.pr (by rw[h.lpr];decide) (by rw[h.lpr];decide)
 have ne: ∀k j,lab k=j→j≠4→ ¬lab k=4:=fun k j e hj q=>hj (e.symm.trans q)
 refine⟨h.hP,h.hn,h.hq,hl.lt,h.z hl,h.l hl h.lm (by decide),h.co.kept bm,?_,h.l hl h.lpr (by decide),⟨fun i hi=>(h.pc.at_ i hi).kept bp,fun o=>(World.frozen?_of_block bp).trans (h.pc.fz o),h.pc.ok⟩,h.l hl h.lth (by decide),hr,⟨h.l hl h.ltb.1 (by decide),h.l hl h.ltb.2 (by decide)⟩,h.tb.frame hf.gt (ne _ _ h.ltb.1 (by decide)) (ne _ _ h.ltb.2 (by decide)),h.t0.frame hf.gt (by rw[h.l0];decide),h.l hl h.lsb (by decide),?_,?_,?_,fun k hk=>h.l hl (h.lw k hk) (by decide),h.wh.frame hf.wh (fun k hk=>ne _ _ (h.lw k hk) (by decide))⟩
 ·obtain⟨v,vs,e,hp⟩:=h.pg
  exact⟨v,vs,(World.cell?_of_block bm).trans e,hp.kept (fun k hk=>hb k (by rw[hk];decide) (by rw[hk];decide)) (fun k e=>h.l hl e (by decide))⟩
 ·obtain⟨base,v,hp,hq⟩:=h.sv
  exact⟨base,v,hp.frame hf.cb (ne _ _ h.lsb (by decide)) (fun k hk=>ne _ _ (hq k hk) (by decide)),fun k hk=>h.l hl (hq k hk) (by decide)⟩
 ·obtain⟨b,O,hp,hq⟩:=h.gr
  exact⟨b,O,hp.frame hf.pi (fun k hk=>ne _ _ (hq k hk) (by decide)),fun k hk=>h.l hl (hq k hk) (by decide)⟩
 ·obtain⟨O,hp,hq⟩:=h.pl
  exact⟨O,hp.frame hf (fun k hk=>ne _ _ (hq k hk) (by decide)),fun k hk=>h.l hl (hq k hk) (by decide)⟩
def ay (w w':World) (lab:Nat→Nat) (a:Ad) (P n q T:Nat) (M:Mc):Prop:= ∃lab',aD w' lab' a P n q T M∧oO w w' lab lab'∧Fr (fun k=>lab k≠0) w w'
theorem oO.then (h:oO w w' lab lab') (h':oO w' w'' lab' lab'') (hs:w.heap.size≤w'.heap.size):oO w w'' lab lab'':=⟨fun k hk=>(h'.old k (Nat.lt_of_lt_of_le hk hs)).trans (h.old k hk),h'.lt⟩
theorem aD.stay (h:aD w lab a P n q T M) (hb:Below w.heap.size w w'):ay w w' lab a P n q T M:=⟨lab,h.below hb,h.same (S:=fun _=>False) (dh hb),dh hb⟩
theorem aD.goes (h:aD w lab a P n q T M):ay w w lab a P n q T M:=h.stay (Below.refl _ _)
theorem ay.then {M':Mc} (h:ay w w' lab a P n q T M) (h': ∀lab',aD w' lab' a P n q T M→ay w' w'' lab' a P n q T' M'):ay w w'' lab a P n q T' M':=by
 obtain⟨l1,i1,b1,f1⟩:=h
 obtain⟨l2,i2,b2,f2⟩:=h' l1 i1
 exact⟨l2,i2,b1.then b2 f1.size,f1.then f2 (fun k hk hn=>by rw[←b1.old k hk];exact hn)⟩
theorem ay.after {M':Mc} (hl:oO w w' lab lab') (hf:Fr (fun k=>lab k≠0) w w') (h':ay w' w'' lab' a P n q T' M'):ay w w'' lab a P n q T' M':=by
 obtain⟨l2,i2,b2,f2⟩:=h'
 exact⟨l2,i2,hl.then b2 hf.size,hf.then f2 (fun k hk hn=>by rw[←hl.old k hk];exact hn)⟩
theorem ay.ahead (hb:Below w.heap.size w w') (h:ay w' w'' lab a P n q T M):ay w w'' lab a P n q T M:=by
 obtain⟨l2,i2,b2,f2⟩:=h
 exact⟨l2,i2,⟨fun k hk=>b2.old k (Nat.lt_of_lt_of_le hk hb.size),b2.lt⟩,(dh hb).then f2 (fun _ _ q=>q)⟩
theorem ay.more (h:ay w w' lab a P n q T M) (hb:Below w'.heap.size w' w''):ay w w'' lab a P n q T M:=h.then (fun _ i=>i.stay hb)
theorem aD.uG (h:aD w lab a P n q T M) (hT:T≤T'):aD w lab a P n q T' M:=by
 obtain⟨O,hp,hl⟩:=h.pl
 exact⟨h.hP,h.hn,h.hq,h.lt,h.l0,h.lm,h.co,h.pg,h.lpr,h.pc,h.lth,h.th,h.ltb,h.tb,h.t0,h.lsb,h.sv,h.gr,⟨O,hp.more hT,hl⟩,h.lw,h.wh⟩
theorem ay.uG (h:ay w w' lab a P n q T M) (hT:T≤T'):ay w w' lab a P n q T' M:=by
 obtain⟨l1,i1,b1,f1⟩:=h
 exact⟨l1,i1.uG hT,b1,f1⟩
end
def dU (M:Mc) (n:Nat) (t:Tr):Nat:=if Gt.hasB n M.G M.S t.p t.g then M.S t.p.toNat else 0
def da (M:Mc) (t:Tr):Int:=Ag.xw t.lv t.sn M.nw M.ag
def dQ (M:Mc) (n:Nat) (t:Tr):Ke.K:=
 if 0<(Cb.lZ M.sv t.sv).l then Ke.cg ((Cb.lZ M.sv t.sv).d:Int)
 else if dU M n t=1 then Ke.br (da M t)
 else if dU M n t=2 then Ke.br (max (t.lv:Int) (t.lf:Int))
 else Ke.br (t.lv:Int)
theorem uf {w:World} {b g n:Nat} {G S:Nat→Nat} (h:Gt.aJ w b g n G S) (p:Int) (q:Nat):
  Calls Tryz.prog 116 #[.pointer (some ⟨b,0,none⟩),.agg #[.int .i64 p,.int .u32 (q:Int)]] w fun e w'=>e= .returned (.tuple #[.int .i64 ((if Gt.hasB n G S p q then S p.toNat else 0:Nat):Int),.bool (Gt.hasB n G S p q)])∧Below w.heap.size w w':=by
 cases hh:Gt.hasB n G S p q with
 |false=>
  simp only[Bool.false_eq_true,if_false]
  exact Gt.sJ h p q hh
 |true=>
  obtain⟨x,rfl,h1,h2,h3⟩:=Gt.oh hh
  simp only[if_true,Int.toNat_natCast]
  exact Gt.tO h x q h1 h2 h3
theorem kc {W0 W:World} (hb:Below W0.heap.size W0 W) {b o:Nat} {u:Value} (c:W0.cell? ⟨b,o,none⟩=some u):W.cell? ⟨b,o,none⟩=some u:=(hb.cell (p:=⟨b,o,none⟩) (World.block_lt_of_cell? W0 _ c)).trans c
theorem bt {W0 W W':World} (hb:Below W0.heap.size W0 W) (hb':Below W.heap.size W W'):Below W0.heap.size W0 W':=hb.trans (hb'.mono hb.size)
theorem bp {W0 W W':World} (h:Below W0.heap.size W0 W) (a:W'.heap=W.heap) (b:W'.os=W.os) (c:W'.tape=W.tape) (d:W'.output=W.output):Below W0.heap.size W0 W':=aQ h a b c d
theorem beq {w w':World} (h:w'=w):Below w.heap.size w w':=by rw[h];exact Below.refl _ _
theorem aV (w:World) (c:Array Value) (t:TypeId) (i:Nat) (u:Value) (h:c[i]? =some u):(w.alloc (.cells c t)).cell? ⟨w.heap.size,i,none⟩=some u:=by
 rw[←h];exact Gt.aA _ _ _ _
section
variable {w:World} {lab:Nat→Nat} {a:Ad} {P n q T:Nat} {M:Mc}
theorem aD.state (h:aD w lab a P n q T M) (t:Tr):
  Calls Tryz.prog 83 #[.pointer (some ⟨a.m,0,none⟩),.agg #[.int .i64 t.p,.int .u32 (t.g:Int),.int .i64 t.pg,.int .u8 (t.lv:Int),.int .u8 (t.lf:Int),.int .i64 t.sv,.int .i64 t.pc,.int .i64 t.ia,.int .i64 t.il,.int .u64 (t.sn:Int)]] w fun e w'=>e= .returned (.int .i64 (dU M n t:Int))∧Below w.heap.size w w':=by
 have hbw:Below w.heap.size w (w.alloc (.cells #[.int .i64 t.p,.int .u32 (t.g:Int),.int .i64 t.pg,.int .u8 (t.lv:Int),.int .u8 (t.lf:Int),.int .i64 t.sv,.int .i64 t.pc,.int .i64 t.ia,.int .i64 t.il,.int .u64 (t.sn:Int)] 172)):=(Below.refl _ _).alloc (Nat.le_refl _) _
 have h0:=h.below hbw
 have k0:=aV w #[.int .i64 t.p,.int .u32 (t.g:Int),.int .i64 t.pg,.int .u8 (t.lv:Int),.int .u8 (t.lf:Int),.int .i64 t.sv,.int .i64 t.pc,.int .i64 t.ia,.int .i64 t.il,.int .u64 (t.sn:Int)] 172 0 _ rfl
 have k1:=aV w #[.int .i64 t.p,.int .u32 (t.g:Int),.int .i64 t.pg,.int .u8 (t.lv:Int),.int .u8 (t.lf:Int),.int .i64 t.sv,.int .i64 t.pc,.int .i64 t.ia,.int .i64 t.il,.int .u64 (t.sn:Int)] 172 1 _ rfl
 have HBW:=aa hbw
 clear h hbw
 generalize hW:w.alloc (.cells #[.int .i64 t.p,.int .u32 (t.g:Int),.int .i64 t.pg,.int .u8 (t.lv:Int),.int .u8 (t.lf:Int),.int .i64 t.sv,.int .i64 t.pc,.int .i64 t.ia,.int .i64 t.il,.int .u64 (t.sn:Int)] 172)=W0 at*
 have HW:=aa hW
 clear hW
 have HS:=aa (fun W (hb:Below W0.heap.size W0 W)=>(uf ((h0.below hb).tb) t.p t.g).mono (fun _ _ ⟨e,b⟩=>(And.intro e (bt hb b))))
 have c5:=h0.co.c5
 have H0:=aa (Below.refl W0.heap.size W0)
 have hst:(if Gt.hasB n M.G M.S t.p t.g then M.S t.p.toNat else 0)=dU M n t:=rfl
 rw[hst] at HS
 clear h0 hst
 generalize dU M n t=st at*
 generalize Gt.hasB n M.G M.S t.p t.g=hb at*
 go_enter Tryz.func83,Tryz.ntmps83
 go_wp2
 rw[HW.out]
 go_region_held3 (fun w'=>w'.cell? ⟨a.m,5,none⟩=some (.pointer (some ⟨a.tb,0,none⟩))∧w'.cell? ⟨w.heap.size,0,none⟩=some (.int .i64 t.p)∧w'.cell? ⟨w.heap.size,1,none⟩=some (.int .u32 (t.g:Int)))
  (first|exact⟨kc HB1.out c5,kc HB1.out k0,kc HB1.out k1⟩|go_keep)
  (first
   |(go_at_call 116;refine(HS.out _ (by exact bp H0.out rfl rfl rfl rfl)).mono ?_;rintro e w1 ⟨rfl,hb1⟩;have HB1:=aa hb1;clear hb1))
 go_wp2
 go_ret
 exact⟨rfl,HBW.out.trans (HB1.out.mono HBW.out.size)⟩
theorem aD.now (h:aD w lab a P n q T M):
  Calls Tryz.prog 88 #[.pointer (some ⟨a.m,0,none⟩)] w fun e w'=>e= .returned (.int .u64 (M.nw:Int))∧w'=w:=by
 have c9:=h.co.c9
 have HN:=aa (Wh.D5 h.wh)
 clear h
 go_enter Tryz.func88,Tryz.ntmps88
 go_wp2_with (first
  |(go_at_call 125;refine(HN.out).mono ?_;rintro e w1 ⟨rfl,hw⟩;subst hw))
 go_ret
 exact⟨rfl,rfl⟩
theorem aD.G1 (h:aD w lab a P n q T M):M.nw<18446744073709551616:=h.wh.facts.2.2.2.2.1
theorem aD.Gw (h:aD w lab a P n q T M) (t:Tr) (ht:t.ok):
  Calls Tryz.prog 107 #[.pointer (some ⟨a.m,0,none⟩),.agg #[.int .i64 t.p,.int .u32 (t.g:Int),.int .i64 t.pg,.int .u8 (t.lv:Int),.int .u8 (t.lf:Int),.int .i64 t.sv,.int .i64 t.pc,.int .i64 t.ia,.int .i64 t.il,.int .u64 (t.sn:Int)]] w fun e w'=>e= .returned (.int .u8 (da M t))∧Below w.heap.size w w':=by
 have hbw:Below w.heap.size w (w.alloc (.cells #[.int .i64 t.p,.int .u32 (t.g:Int),.int .i64 t.pg,.int .u8 (t.lv:Int),.int .u8 (t.lf:Int),.int .i64 t.sv,.int .i64 t.pc,.int .i64 t.ia,.int .i64 t.il,.int .u64 (t.sn:Int)] 172)):=(Below.refl _ _).alloc (Nat.le_refl _) _
 have h0:=h.below hbw
 have k0:=aV w #[.int .i64 t.p,.int .u32 (t.g:Int),.int .i64 t.pg,.int .u8 (t.lv:Int),.int .u8 (t.lf:Int),.int .i64 t.sv,.int .i64 t.pc,.int .i64 t.ia,.int .i64 t.il,.int .u64 (t.sn:Int)] 172 3 _ rfl
 have k1:=aV w #[.int .i64 t.p,.int .u32 (t.g:Int),.int .i64 t.pg,.int .u8 (t.lv:Int),.int .u8 (t.lf:Int),.int .i64 t.sv,.int .i64 t.pc,.int .i64 t.ia,.int .i64 t.il,.int .u64 (t.sn:Int)] 172 9 _ rfl
 have HBW:=aa hbw
 have hnw:=h.G1
 have hag:=h.hq.2
 clear h hbw
 generalize hW:w.alloc (.cells #[.int .i64 t.p,.int .u32 (t.g:Int),.int .i64 t.pg,.int .u8 (t.lv:Int),.int .u8 (t.lf:Int),.int .i64 t.sv,.int .i64 t.pc,.int .i64 t.ia,.int .i64 t.il,.int .u64 (t.sn:Int)] 172)=W0 at*
 have HW:=aa hW
 clear hW
 have HN:=aa (fun W (hb:Below W0.heap.size W0 W)=>(h0.below hb).now.mono (fun _ _ ⟨e,b⟩=>(And.intro e (bt hb (beq b)))))
 have HL:=aa (fun W (hb:Below W0.heap.size W0 W)=>(Ag.zv (t.lv:Int) (t.sn:Int) (M.nw:Int) (M.ag:Int) W (by have:=ht.lv;exact⟨by omega,by omega⟩) (by have:=ht.sn;exact⟨by omega,by omega⟩) ⟨by omega,by omega⟩ ⟨by omega,by omega⟩).mono (fun _ _ ⟨e,b⟩=>(And.intro e (bt hb (beq b)))))
 have c1:=h0.co.c1
 have H0:=aa (Below.refl W0.heap.size W0)
 have hst:Ag.xw t.lv t.sn M.nw M.ag=da M t:=rfl
 rw[hst] at HL
 clear h0 hst hnw hag ht
 generalize da M t=st at*
 go_enter Tryz.func107,Tryz.ntmps107
 go_wp2
 rw[HW.out]
 go_region_held3 (fun w'=>w'.cell? ⟨a.m,1,none⟩=some (.int .u64 (M.ag:Int))∧w'.cell? ⟨w.heap.size,3,none⟩=some (.int .u8 (t.lv:Int))∧w'.cell? ⟨w.heap.size,9,none⟩=some (.int .u64 (t.sn:Int)))
  (first|exact⟨kc HB2.out c1,kc HB2.out k0,kc HB2.out k1⟩|exact⟨kc HB1.out c1,kc HB1.out k0,kc HB1.out k1⟩|go_keep)
  (first
   |(go_at_call 88;refine(HN.out _ (by exact bp H0.out rfl rfl rfl rfl)).mono ?_;rintro e w1 ⟨rfl,hb1⟩;have HB1:=aa hb1;clear hb1)
   |(go_at_call 141;refine(HL.out _ (by exact bp HB1.out rfl rfl rfl rfl)).mono ?_;rintro e w2 ⟨rfl,hb2⟩;have HB2:=aa hb2;clear hb2))
 go_wp2
 go_ret
 exact⟨rfl,HBW.out.trans (HB2.out.mono HBW.out.size)⟩
theorem yO (h:aD w lab a P n q T M) (t:Tr) (ht:t.ok):(dQ M n t).ok∧Ke.aB (dQ M n t)=true:=by
 have hl:=ht.lv
 have hf:=ht.lf
 have hfix: ∀l:Int,0≤l→l<256→(Ke.br l).ok∧Ke.aB (Ke.br l)=true:=fun l h1 h2=>⟨⟨⟨Int.le_refl 0,by show(0:Int)<_;decide⟩,h1,h2⟩,rfl⟩
 unfold dQ
 split
 ·obtain⟨base,v,hp,_⟩:=h.sv
  rename_i hpos
  refine⟨⟨⟨Int.natCast_nonneg _,?_⟩,Int.le_refl 0,by show(0:Int)<_;decide⟩,rfl⟩
  show(((Cb.lZ M.sv t.sv).d:Nat):Int)<_
  have hd:(Cb.lZ M.sv t.sv).d<18446744073709551616:=by
   rcases Cb.oF M.sv t.sv with ⟨_,e⟩|⟨k,x,e,hx⟩
   ·unfold Cb.lZ;rw[if_neg e];decide
   ·rw[e,(Cb.ri hx).1]
    exact(hp.f.all x (List.mem_of_getElem? hx)).2.2.2.2
  omega
 ·split
  ·have hlv:0≤da M t∧da M t<256:=by
    unfold da Ag.xw
    by_cases e:(M.ag:Int)=0
    ·rw[if_pos e];omega
    ·rw[if_neg e]
     have hs:0≤Ag.jJ M.nw t.sn:=by unfold Ag.jJ;split<;>omega
     have hd:0≤Ag.jJ M.nw t.sn/(M.ag:Int):=Int.ediv_nonneg hs (by omega)
     split<;>omega
   exact hfix _ hlv.1 hlv.2
  ·split
   ·exact hfix _ (by omega) (by omega)
   ·exact hfix _ (by omega) (by omega)
end
theorem gK {B:Nat} {w W:World} (h:Below B w W) {a:Addr} (ha:B≤a.block) (u:Value):Below B w (W.setCell a u):=
 ⟨h.os,h.tape,h.output,by simpa using h.size,fun k hk=>(Below.heap_setCell _ _ _ _ (by omega)).trans (h.block k hk)⟩
structure jD (W:World) (b:Nat):Prop where
 c0:W.cell? ⟨b,0,none⟩=some (.bool false)
 c1:W.cell? ⟨b,1,none⟩=some (.int .u64 0)
 c2:W.cell? ⟨b,2,none⟩=some (.int .u8 0)
 f0:W.frozen? ⟨b,0,none⟩=false
 f1:W.frozen? ⟨b,1,none⟩=false
 f2:W.frozen? ⟨b,2,none⟩=false
theorem jD.kept {W W':World} {b:Nat} (h:jD W b) (hb:Below W.heap.size W W'):jD W' b:=by
 have e:=hb.block b (World.block_lt_of_cell? W _ h.c0)
 exact⟨(World.cell?_of_block e).trans h.c0,(World.cell?_of_block e).trans h.c1,(World.cell?_of_block e).trans h.c2,(World.frozen?_of_block e).trans h.f0,(World.frozen?_of_block e).trans h.f1,(World.frozen?_of_block e).trans h.f2⟩
theorem jD.new (W:World):jD (W.alloc (.cells #[.bool false,.int .u64 0,.int .u8 0] 130)) W.heap.size:=
 ⟨aV _ _ _ 0 _ rfl,aV _ _ _ 1 _ rfl,aV _ _ _ 2 _ rfl,Gt.aG _ _ _ _,Gt.aG _ _ _ _,Gt.aG _ _ _ _⟩
theorem bo.new (W:World) (t:Tr):bo (W.alloc (.cells #[.int .i64 t.p,.int .u32 (t.g:Int),.int .i64 t.pg,.int .u8 (t.lv:Int),.int .u8 (t.lf:Int),.int .i64 t.sv,.int .i64 t.pc,.int .i64 t.ia,.int .i64 t.il,.int .u64 (t.sn:Int)] 172)) W.heap.size 0 t:=
 ⟨aV _ _ _ 0 _ rfl,aV _ _ _ 1 _ rfl,aV _ _ _ 2 _ rfl,aV _ _ _ 3 _ rfl,aV _ _ _ 4 _ rfl,aV _ _ _ 5 _ rfl,aV _ _ _ 6 _ rfl,aV _ _ _ 7 _ rfl,aV _ _ _ 8 _ rfl,aV _ _ _ 9 _ rfl⟩
theorem bo.low {W W':World} {b o:Nat} {t:Tr} (h:bo W b o t) (hb:Below W.heap.size W W'):bo W' b o t:=h.kept (hb.block b (World.block_lt_of_cell? W _ h.c0))
section
variable {w:World} {lab:Nat→Nat} {a:Ad} {P n q T:Nat} {M:Mc}
theorem aD.Ea (h:aD w lab a P n q T M) (i:Int):
  Calls Tryz.prog 113 #[.pointer (some ⟨a.sb,0,none⟩),.int .i64 i] w fun e w'=>e= .returned (.bool (decide (0<(Cb.lZ M.sv i).l)))∧Below w.heap.size w w':=by
 obtain⟨base,v,hp,_⟩:=h.sv
 exact(Cb.wT hp i).mono (fun _ _ ⟨e,c,b⟩=>⟨e,Cb.uY b⟩)
theorem aD.deadline (h:aD w lab a P n q T M) (i:Int):
  Calls Tryz.prog 115 #[.pointer (some ⟨a.sb,0,none⟩),.int .i64 i] w fun e w'=>e= .returned (.int .u64 ((Cb.lZ M.sv i).d:Int))∧Below w.heap.size w w':=by
 obtain⟨base,v,hp,_⟩:=h.sv
 exact(Cb.qp hp i).mono (fun _ _ ⟨e,c,b⟩=>⟨e,Cb.uY b⟩)
theorem aD.own (h:aD w lab a P n q T M) (t:Tr) (ht:t.ok):
  Calls Tryz.prog 82 #[.pointer (some ⟨a.m,0,none⟩),.agg #[.int .i64 t.p,.int .u32 (t.g:Int),.int .i64 t.pg,.int .u8 (t.lv:Int),.int .u8 (t.lf:Int),.int .i64 t.sv,.int .i64 t.pc,.int .i64 t.ia,.int .i64 t.il,.int .u64 (t.sn:Int)]] w fun e w'=>e= .returned (.agg #[.bool (dQ M n t).e,.int .u64 (dQ M n t).d,.int .u8 (dQ M n t).l])∧Below w.heap.size w w':=by
 have hbw1:Below w.heap.size w (w.alloc (.cells #[.int .i64 t.p,.int .u32 (t.g:Int),.int .i64 t.pg,.int .u8 (t.lv:Int),.int .u8 (t.lf:Int),.int .i64 t.sv,.int .i64 t.pc,.int .i64 t.ia,.int .i64 t.il,.int .u64 (t.sn:Int)] 172)):=(Below.refl _ _).alloc (Nat.le_refl _) _
 have hbw:Below w.heap.size w ((w.alloc (.cells #[.int .i64 t.p,.int .u32 (t.g:Int),.int .i64 t.pg,.int .u8 (t.lv:Int),.int .u8 (t.lf:Int),.int .i64 t.sv,.int .i64 t.pc,.int .i64 t.ia,.int .i64 t.il,.int .u64 (t.sn:Int)] 172)).alloc (.cells #[.bool false,.int .u64 0,.int .u8 0] 130)):=hbw1.alloc (by simp) _
 have h0:=h.below hbw
 have kt:bo ((w.alloc (.cells #[.int .i64 t.p,.int .u32 (t.g:Int),.int .i64 t.pg,.int .u8 (t.lv:Int),.int .u8 (t.lf:Int),.int .i64 t.sv,.int .i64 t.pc,.int .i64 t.ia,.int .i64 t.il,.int .u64 (t.sn:Int)] 172)).alloc (.cells #[.bool false,.int .u64 0,.int .u8 0] 130)) w.heap.size 0 t:=(bo.new w t).low ((Below.refl _ _).alloc (Nat.le_refl _) _)
 have kn:=jD.new (w.alloc (.cells #[.int .i64 t.p,.int .u32 (t.g:Int),.int .i64 t.pg,.int .u8 (t.lv:Int),.int .u8 (t.lf:Int),.int .i64 t.sv,.int .i64 t.pc,.int .i64 t.ia,.int .i64 t.il,.int .u64 (t.sn:Int)] 172))
 rw[show(w.alloc (.cells #[.int .i64 t.p,.int .u32 (t.g:Int),.int .i64 t.pg,.int .u8 (t.lv:Int),.int .u8 (t.lf:Int),.int .i64 t.sv,.int .i64 t.pc,.int .i64 t.ia,.int .i64 t.il,.int .u64 (t.sn:Int)] 172)).heap.size=w.heap.size+1 by simp] at kn
 have HBW:=aa hbw
 have hm: ¬a.m=w.heap.size+1:=by have:=h.lt a.m (by rw[h.lm];decide);omega
 have hm': ¬w.heap.size+1=a.m:=fun e=>hm e.symm
 clear h hbw hbw1
 generalize hW:(w.alloc (.cells #[.int .i64 t.p,.int .u32 (t.g:Int),.int .i64 t.pg,.int .u8 (t.lv:Int),.int .u8 (t.lf:Int),.int .i64 t.sv,.int .i64 t.pc,.int .i64 t.ia,.int .i64 t.il,.int .u64 (t.sn:Int)] 172)).alloc (.cells #[.bool false,.int .u64 0,.int .u8 0] 130)=W0 at*
 have HW:=aa hW
 clear hW
 have HA:=aa (fun W (hb:Below W0.heap.size W0 W)=>((h0.below hb).Ea t.sv).mono (fun _ _ ⟨e,b⟩=>And.intro e (bt hb b)))
 have HD:=aa (fun W (hb:Below W0.heap.size W0 W)=>((h0.below hb).deadline t.sv).mono (fun _ _ ⟨e,b⟩=>And.intro e (bt hb b)))
 have HK:=aa (fun W (hb:Below W0.heap.size W0 W)=>(Ke.pB W ((Cb.lZ M.sv t.sv).d:Int)).mono (fun _ _ ⟨e,b⟩=>And.intro e (bt hb b)))
 have HS:=aa (fun W (hb:Below W0.heap.size W0 W)=>((h0.below hb).state t).mono (fun _ _ ⟨e,b⟩=>And.intro e (bt hb b)))
 have HG:=aa (fun W (hb:Below W0.heap.size W0 W)=>((h0.below hb).Gw t ht).mono (fun _ _ ⟨e,b⟩=>And.intro e (bt hb b)))
 have HF:=aa (fun l W (hb:Below W0.heap.size W0 W)=>(Ke.lW W l).mono (fun _ _ ⟨e,b⟩=>And.intro e (bt hb b)))
 have c6:=h0.co.c6
 have k5:=kt.c5
 have H0:=aa (Below.refl W0.heap.size W0)
 have HT:=aa (fun W (hb:Below W0.heap.size W0 W)=>And.intro (kt.low hb) (kn.kept hb))
 have hown:dQ M n t=if 0<(Cb.lZ M.sv t.sv).l then Ke.cg ((Cb.lZ M.sv t.sv).d:Int) else if dU M n t=1 then Ke.br (da M t) else if dU M n t=2 then Ke.br (max (t.lv:Int) (t.lf:Int)) else Ke.br (t.lv:Int):=rfl
 clear h0 kt kn ht
 generalize dQ M n t=own at*
 generalize dU M n t=st at*
 generalize da M t=ag at*
 generalize hsl:(Cb.lZ M.sv t.sv).l=sl at*
 generalize (Cb.lZ M.sv t.sv).d=sd at*
 by_cases hact:0<sl
 ·rw[if_pos hact] at hown
  subst hown
  have hd:decide (0<sl)=true:=decide_eq_true hact
  rw[hd] at HA
  go_enter Tryz.func82,Tryz.ntmps82
  go_wp2
  rw[HW.out]
  go_region_held3 (fun w'=>w'.cell? ⟨a.m,6,none⟩=some (.pointer (some ⟨a.sb,0,none⟩))∧w'.cell? ⟨w.heap.size,5,none⟩=some (.int .i64 t.sv))
   (first|exact⟨kc HB1.out c6,kc HB1.out k5⟩|go_keep)
   (first
    |(go_at_call 113;refine(HA.out _ (by exact bp H0.out rfl rfl rfl rfl)).mono ?_;rintro e w1 ⟨rfl,hb1⟩;have HB1:=aa hb1;clear hb1))
  go_wp2
  have d6:=kc HB1.out c6
  have d5:=kc HB1.out k5
  have HN:=aa (fun W hb=>(HT.out W hb).2)
  go_region_held3 (fun w'=>w'.cell? ⟨a.m,6,none⟩=some (.pointer (some ⟨a.sb,0,none⟩))∧w'.cell? ⟨w.heap.size,5,none⟩=some (.int .i64 t.sv))
   (first|exact⟨kc HB3.out c6,kc HB3.out k5⟩|exact⟨kc HB2.out c6,kc HB2.out k5⟩|go_keep)
   (first
    |(go_at_call 115;refine(HD.out _ (by exact bp HB1.out rfl rfl rfl rfl)).mono ?_;rintro e w2 ⟨rfl,hb2⟩;have HB2:=aa hb2;clear hb2)
    |(go_at_call 114;refine(HK.out _ (by exact bp HB2.out rfl rfl rfl rfl)).mono ?_;rintro e w3 ⟨rfl,hb3⟩;have HB3:=aa hb3;obtain⟨r0,r1,r2,f0,f1,f2⟩:=HN.out _ hb3;clear hb3))
  go_wp2
  simp[bodyPost,results,Tryz.results82,go_sem,r0,r1,r2]
  exact(gK (gK (gK (HBW.out.trans (HB3.out.mono HBW.out.size)) (by simp) _) (by simp) _) (by simp) _)
 ·rw[if_neg hact] at hown
  have hd:decide (0<sl)=false:=decide_eq_false hact
  rw[hd] at HA
  go_enter Tryz.func82,Tryz.ntmps82
  go_wp2
  rw[HW.out]
  go_region_held3 (fun w'=>w'.cell? ⟨a.m,6,none⟩=some (.pointer (some ⟨a.sb,0,none⟩))∧w'.cell? ⟨w.heap.size,5,none⟩=some (.int .i64 t.sv))
   (first|exact⟨kc HB1.out c6,kc HB1.out k5⟩|go_keep)
   (first
    |(go_at_call 113;refine(HA.out _ (by exact bp H0.out rfl rfl rfl rfl)).mono ?_;rintro e w1 ⟨rfl,hb1⟩;have HB1:=aa hb1;clear hb1))
  obtain⟨⟨d0,d1,d2,d3,d4,d5,d6,d7,d8,d9⟩,_⟩:=HT.out _ HB1.out
  by_cases h1:st=1
  ·rw[if_pos h1] at hown
   subst h1
   subst hown
   go_wp2_with (first
    |(go_at_call 83;refine(HS.out _ HB1.out).mono ?_;rintro e w2 ⟨rfl,hb2⟩;have HB2:=aa hb2;obtain⟨⟨d0,d1,d2,d3,d4,d5,d6,d7,d8,d9⟩,_⟩:=HT.out _ hb2;clear hb2)
    |(go_at_call 107;refine(HG.out _ HB2.out).mono ?_;rintro e w3 ⟨rfl,hb3⟩;have HB3:=aa hb3;clear hb3)
    |(go_at_call 47;refine(HF.out _ _ HB3.out).mono ?_;rintro e w4 ⟨rfl,hb4⟩;have HB4:=aa hb4;obtain⟨_,r0,r1,r2,f0,f1,f2⟩:=HT.out _ hb4;clear hb4))
   simp[bodyPost,results,Tryz.results82,go_sem,r0,r1,r2]
   exact gK (gK (gK (HBW.out.trans (HB4.out.mono HBW.out.size)) (by simp) _) (by simp) _) (by simp) _
  ·rw[if_neg h1] at hown
   have h1b:((st:Int)==1)=false:=by simp;omega
   by_cases h2:st=2
   ·rw[if_pos h2] at hown
    subst h2
    subst hown
    go_wp2_with (first
     |(go_at_call 83;refine(HS.out _ HB1.out).mono ?_;rintro e w2 ⟨rfl,hb2⟩;have HB2:=aa hb2;obtain⟨⟨d0,d1,d2,d3,d4,d5,d6,d7,d8,d9⟩,_⟩:=HT.out _ hb2;clear hb2)
     |(go_at_call 47;refine(HF.out _ _ HB2.out).mono ?_;rintro e w4 ⟨rfl,hb4⟩;have HB4:=aa hb4;obtain⟨_,r0,r1,r2,f0,f1,f2⟩:=HT.out _ hb4;clear hb4))
    simp[bodyPost,results,Tryz.results82,go_sem,r0,r1,r2]
    exact gK (gK (gK (HBW.out.trans (HB4.out.mono HBW.out.size)) (by simp) _) (by simp) _) (by simp) _
   ·rw[if_neg h2] at hown
    have h2b:((st:Int)==2)=false:=by simp;omega
    subst hown
    go_wp2_with (first
     |(go_at_call 83;refine(HS.out _ HB1.out).mono ?_;rintro e w2 ⟨rfl,hb2⟩;have HB2:=aa hb2;obtain⟨⟨d0,d1,d2,d3,d4,d5,d6,d7,d8,d9⟩,_⟩:=HT.out _ hb2;clear hb2)
     |(go_at_call 47;refine(HF.out _ _ HB2.out).mono ?_;rintro e w4 ⟨rfl,hb4⟩;have HB4:=aa hb4;obtain⟨_,r0,r1,r2,f0,f1,f2⟩:=HT.out _ hb4;clear hb4))
    simp[bodyPost,results,Tryz.results82,go_sem,r0,r1,r2]
    exact gK (gK (gK (HBW.out.trans (HB4.out.mono HBW.out.size)) (by simp) _) (by simp) _) (by simp) _
end
section
variable {w w':World} {lab:Nat→Nat} {a:Ad} {P n q T:Nat} {M:Mc}
theorem aD.fresh (h:aD w lab a P n q T M) {k:Nat} (hk:w.heap.size≤k):lab k=0:=by
 apply Classical.byContradiction
 intro e
 have:=h.lt k e
 omega
theorem Fr.keep (hf:Fr (fun k=>lab k≠0) w w') {b o:Nat} {u:Value} (hb:lab b=0) (c:w.cell? ⟨b,o,none⟩=some u):w'.cell? ⟨b,o,none⟩=some u:=
 (hf.cellAt (World.block_lt_of_cell? w _ c) (fun q=>q hb)).trans c
open Classical in
theorem aD.Hw (h:aD w lab a P n q T M) {b:Nat} {O:Nat→Prop} {g:Pi.Md} (hO: ∀k,O k→lab k=7) (hs:Pi.G0 w w' b O a.gb g):ay w w' lab a P n q T {M with gr:=g}:=by
 obtain⟨O',hp,hf,ho⟩:=hs
 have hf':Fr O w w':=Hu hf
 have hL:oO w w' lab (fun k=>if O' k then 7 else lab k):=by
  refine⟨fun k hk=> ?_,fun k hk=> ?_⟩
  ·by_cases e:O' k
   ·rcases ho k e with q|q
    ·simp only[e,if_true];exact(hO k q).symm
    ·omega
   ·simp only[e,if_false]
  ·by_cases e:O' k
   ·exact hp.lt e
   ·simp only[e,if_false] at hk
    exact Nat.lt_of_lt_of_le (h.lt k hk) hf'.size
 have h7:Fr (fun k=>lab k=7) w w':=hf'.to (fun k _ hk=>hO k hk)
 refine⟨_,h.G8 hL h7 hp (fun k hk=> ?_),hL,h7.to (fun k _ hk=> ?_)⟩
 ·simp only[hk,if_true]
 ·rw[hk];decide
theorem aD.base (h:aD w lab a P n q T M) (t:Int) (k:Ke.K) (hk:k.ok):
  Calls Tryz.prog 81 #[.pointer (some ⟨a.gb,0,none⟩),.int .i64 t,.agg #[.bool k.e,.int .u64 k.d,.int .u8 k.l]] w fun e w'=>(∃c:Int,e= .returned (.int .i64 c))∧ay w w' lab a P n q T {M with gr:=(Pi.fD M.gr t k).2}:=by
 obtain⟨b,O,hp,hO⟩:=h.gr
 exact(hp.base t k hk).mono (fun _ _ ⟨e,hs⟩=>⟨⟨_,e⟩,h.Hw hO hs⟩)
theorem aD.key (h:aD w lab a P n q T M) (t:Int):
  Calls Tryz.prog 85 #[.pointer (some ⟨a.gb,0,none⟩),.int .i64 t] w fun e w'=>e= .returned (.agg #[.bool (Pi.di M.gr.T M.gr.L t).e,.int .u64 (Pi.di M.gr.T M.gr.L t).d,.int .u8 (Pi.di M.gr.T M.gr.L t).l])∧Below w.heap.size w w':=by
 obtain⟨b,O,hp,hO⟩:=h.gr
 exact hp.key t
theorem Cy {k k':Ke.K} (h:k.ok) (h':k'.ok):(Ke.dO k k').ok:=by unfold Ke.dO;split<;>assumption
theorem DX {T:List Pi.Th} {L:List Pi.Lk} (h: ∀x∈T,x.k.ok): ∀m t,(Pi.kf T L m t).ok
 |m,t=>by
  have h0:(Pi.gO T t).ok:=by
   unfold Pi.gO
   cases e:T[t]? with
   |none=>exact⟨⟨Int.le_refl 0,by show(0:Int)<_;decide⟩,Int.le_refl 0,by show(0:Int)<_;decide⟩
   |some x=>exact h x (List.mem_of_getElem? e)
  cases m with
  |zero=>exact h0
  |succ m=>
   unfold Pi.kf
   have: ∀(l:List Nat) (k:Ke.K),k.ok→(l.foldl (fun k x=>Ke.dO k (Pi.kf T L m x)) k).ok:=fun l=>by
    induction l with
    |nil=>exact fun k hk=>hk
    |cons x l ih=>exact fun k hk=>ih _ (Cy hk (DX h m x))
   exact this _ _ h0
theorem aD.jj (h:aD w lab a P n q T M) (t:Int):(Pi.di M.gr.T M.gr.L t).ok:=by
 obtain⟨b,O,hp,hO⟩:=h.gr
 have hf:=hp.f
 have h0:(Ke.br 0).ok:=⟨⟨Int.le_refl 0,by show(0:Int)<_;decide⟩,Int.le_refl 0,by show(0:Int)<_;decide⟩
 unfold Pi.di
 split
 ·unfold Pi.keyOf
  split
  ·exact DX (fun x hx=>(hf.th x hx).1) _ _
  ·exact h0
 ·exact h0
theorem aD.change (h:aD w lab a P n q T M) (hT:T≤1000000000) (id:Nat) (hi:id<n) (k:Ke.K) (hk:k.ok):
  Calls Tryz.prog 84 #[.pointer (some ⟨a.pb,0,none⟩),.int .i64 (id:Int),.agg #[.bool k.e,.int .u64 k.d,.int .u8 k.l]] w fun e w'=>(∃c:Int,e= .returned (.int .i64 c))∧ay w w' lab a P n q (T+1) {M with pl:=cU n (gh M.pl) (id:Int) k}:=by
 obtain⟨O,hp,hO⟩:=h.pl
 refine(hp.change hT (id:Int) (js (by have:=h.hn;omega)) k hk).mono ?_
 rintro e w' ⟨rfl,hp',hf⟩
 have h8:Fr (fun k=>lab k=8) w w':=hf.to (fun k _ hk=>hO k hk)
 refine⟨⟨_,rfl⟩,lab,h.Fh (h.same h8) h8 hp' hO,h.same h8,h8.to (fun k _ hk=> ?_)⟩
 rw[hk];decide
theorem aD.live (h:aD w lab a P n q T M):
  Calls Tryz.prog 80 #[.pointer (some ⟨a.tb,0,none⟩)] w fun e w'=> ∃v,e= .returned v∧w'.ownsRow w.heap.size 60 2 v (Gt.pl M.S false n n).length (Gt.cm M.G (Gt.pl M.S false n n))∧Below w.heap.size w w':=Gt.Bo h.tb
def ck (M:Mc) (n:Nat):List Nat:=(Gt.pl M.S false n n).map (·.val)
theorem rN (M:Mc) (n:Nat): ∀x∈ck M n,x<n:=fun x hx=>by
 obtain⟨y,_,rfl⟩:=List.mem_map.1 hx
 exact y.isLt
theorem xL (M:Mc) (n:Nat):(ck M n).length≤n:=by unfold ck;rw[List.length_map];exact Gt.ub _ _ _ _
theorem mC (G:Nat→Nat) {n:Nat}: ∀(l:List (Fin n)) (j x:Nat),(l.map (·.val))[j]? =some x→(Gt.cm G l)[j*2]? =some (.int .i64 (x:Int))∧(Gt.cm G l)[j*2+1]? =some (.int .u32 (G x:Int))
 |[],j,x,h=>by simp at h
 |y::l,0,x,h=>by
  simp at h
  subst h
  exact⟨rfl,rfl⟩
 |y::l,j+1,x,h=>by
  have:=mC G l j x (by simpa using h)
  have e:Gt.cm G (y::l)= .int .i64 (y.val:Int):: .int .u32 (G y.val:Int)::Gt.cm G l:=rfl
  rw[e,show(j+1)*2=j*2+1+1 by omega]
  simpa using this
structure Lv (W:World) (lab:Nat→Nat) (ad:Option Addr) (l:List Nat) (G:Nat→Nat):Prop where
 at_: ∀(j x:Nat),l[j]? =some x→ ∃rb:Nat,ad=some ⟨rb,0,none⟩∧lab rb=0∧W.cell? ⟨rb,j*2,none⟩=some (.int .i64 (x:Int))∧W.cell? ⟨rb,j*2+1,none⟩=some (.int .u32 (G x:Int))
theorem Lv.of (h:aD w lab a P n q T M) {v:Value} (ho:w'.ownsRow w.heap.size 60 2 v (Gt.pl M.S false n n).length (Gt.cm M.G (Gt.pl M.S false n n))):
  ∃ad cap,v= .slice ad (ck M n).length cap∧Lv w' lab ad (ck M n) M.G:=by
 have el:(ck M n).length=(Gt.pl M.S false n n).length:=by unfold ck;rw[List.length_map]
 rw[el]
 have hl:=ho.1
 rcases ho with ⟨_,⟨hv,hz⟩|⟨g,cap,cells,hv,h3,h4,h5⟩⟩
 ·refine⟨none,0,by rw[hv,hz],⟨fun j x hx=> ?_⟩⟩
  have:=(List.getElem?_eq_some_iff.1 hx).1
  omega
 ·refine⟨some ⟨g,0,none⟩,cap,hv,⟨fun j x hx=>⟨g,rfl,h.fresh h3,?_⟩⟩⟩
  have hc: ∀(k:Nat) (u:Value),(Gt.cm M.G (Gt.pl M.S false n n))[k]? =some u→w'.cell? ⟨g,k,none⟩=some u:=fun k u hu=>by
   rw[←h5.2.2.2,List.getElem?_take] at hu
   split at hu
   ·simp only[World.cell?,h4]
    simpa using hu
   ·cases hu
  have:=mC M.G (Gt.pl M.S false n n) j x hx
  exact⟨hc _ _ this.1,hc _ _ this.2⟩
noncomputable def fB (n:Nat) (M:Mc) (g:Pi.Md) (x:Nat):Pi.Md:=(Pi.fD g (x:Int) (dQ M n (M.th x))).2
noncomputable def fN (n:Nat) (M:Mc) (g:Pi.Md) (l:List (List En)) (x:Nat):List (List En):=if dU M n (M.th x)=1 then cU n (gh l) (x:Int) (Pi.di g.T g.L (x:Int)) else l
noncomputable def ik (M:Mc) (n:Nat):Pi.Md:=(ck M n).foldl (fB n M) M.gr
noncomputable def settle (M:Mc) (n:Nat):Mc:={M with gr:=ik M n,pl:=(ck M n).foldl (fN n M (ik M n)) M.pl}
def zM (w1:World) (lab:Nat→Nat) (a:Ad) (P n q T:Nat) (M:Mc) (j:Nat) (wr:World):Prop:=ay w1 wr lab a P n q T {M with gr:=((ck M n).take j).foldl (fB n M) M.gr}
def rf (w1:World) (lab:Nat→Nat) (a:Ad) (P n q T:Nat) (M:Mc) (j:Nat) (wr:World):Prop:=ay w1 wr lab a P n q (T+j) {M with gr:=ik M n,pl:=((ck M n).take j).foldl (fN n M (ik M n)) M.pl}
theorem kM {α β:Type} (f:β→α→β) (b:β) {l:List α} {j:Nat} {x:α} (h:l[j]? =some x):(l.take (j+1)).foldl f b=f ((l.take j).foldl f b) x:=by
 rw[List.take_add_one,h,List.foldl_append];rfl
theorem qx {α:Type} {l:List α} {j:Nat} (h:l.length≤j):l.take j=l:=List.take_of_length_le h
end
section
variable {w:World} {lab:Nat→Nat} {a:Ad} {P n q T:Nat} {M:Mc}
theorem aD.settle (h:aD w lab a P n q T M) (hT:T+n≤1000000000):
  Calls Tryz.prog 54 #[.pointer (some ⟨a.m,0,none⟩)] w fun e w'=>e= .returned (.tuple #[])∧ay w w' lab a P n q (T+n) (Go.Proofs.YtdbailcdlngemaaGreatDoor.settle M n):=by
 obtain⟨len,hlen⟩: ∃len,(ck M n).length=len:=⟨_,rfl⟩
 have hln:len≤n:=by rw[←hlen];exact xL M n
 have hn:=h.hn
 have HL:Hid (Calls Tryz.prog 80 #[.pointer (some ⟨a.tb,0,none⟩)] w fun e w'=> ∃ad cap,e= .returned (.slice ad len cap)∧Lv w' lab ad (ck M n) M.G∧aD w' lab a P n q T M∧Below w.heap.size w w'):=by
  refine h.live.mono ?_
  rintro e w' ⟨v,rfl,ho,hb⟩
  obtain⟨ad,cap,rfl,hlv⟩:=Lv.of h ho
  exact⟨ad,cap,by rw[hlen],hlv,h.below hb,hb⟩
 have HLEN:=aa hlen
 have c5:=h.co.c5
 have HH:=aa h
 clear h hlen
 go_enter Tryz.func54,Tryz.ntmps54
 go_wp2_with (first
  |(go_at_call 80;refine(HL.out).mono ?_;rintro e w1 ⟨ad,cap,rfl,hlv,hi,hb⟩;have HLV:=aa hlv;have HI:=aa hi;have HB:=aa hb;clear hlv hi hb))
 go_loopw [14] (fun iv wr=> ∃j:Nat,j≤len∧iv= .int .i64 (j:Int)∧zM w1 lab a P n q T M j wr) (fun iv _=>len-(intOf iv).toNat)
 case atStart=>exact⟨0,Nat.zero_le _,rfl,HI.out.goes⟩
 case round=>
  obtain⟨j,hj,rfl,hs⟩:=hrel
  by_cases hjl:j<len
  ·have hjl':(j:Int)<(len:Int):=by omega
   obtain⟨x,hx⟩: ∃x,(ck M n)[j]? =some x:=⟨(ck M n)[j]'(by rw[HLEN.out];exact hjl),List.getElem?_eq_getElem _⟩
   have hxn:x<n:=rN M n x (List.mem_of_getElem? hx)
   have hxn':(x:Int)<(n:Int):=by omega
   obtain⟨rb,rfl,hrl,e0,e1⟩:=HLV.out.at_ j x hx
   obtain⟨lab1,h1,hl1,hf1⟩:=hs
   have r0:=hf1.keep hrl e0
   have r1:=hf1.keep hrl e1
   have HX:=aa hx
   clear hrl e0 e1 hx
   obtain⟨t,ht⟩: ∃t,M.th x=t:=⟨_,rfl⟩
   have hbw:Below wr.heap.size wr (wr.alloc (.cells #[.int .i64 (x:Int),.int .u32 (M.G x:Int)] 60)):=(Below.refl _ _).alloc (Nat.le_refl _) _
   have h0:=h1.below hbw
   have k0:=aV wr #[.int .i64 (x:Int),.int .u32 (M.G x:Int)] 60 0 _ rfl
   have hnl:lab1 wr.heap.size=0:=h1.fresh (Nat.le_refl _)
   have HBW:=aa hbw
   have H1:=aa h1
   have HL1:=aa hl1
   have HF1:=aa hf1
   clear hbw h1 hl1 hf1
   generalize hW:wr.alloc (.cells #[.int .i64 (x:Int),.int .u32 (M.G x:Int)] 60)=W0 at*
   have HW:=aa hW
   clear hW
   have tok:t.ok:=by rw[←ht];exact h0.th.ok x hxn
   obtain⟨d0,d1,d2,d3,d4,d5,d6,d7,d8,d9⟩:bo W0 a.th (x*10) t:=by rw[←ht];exact h0.th.at_ x hxn
   have c4:=h0.co.c4
   have c7:=h0.co.c7
   have hok:=yO h0 t tok
   have HO:=aa (fun W (hb:Below W0.heap.size W0 W)=>((h0.below hb).own t tok).mono (fun _ _ ⟨e,b⟩=>And.intro e (bt hb b)))
   have HBS:Hid (∀W (hb:Below W0.heap.size W0 W),Calls Tryz.prog 81 #[.pointer (some ⟨a.gb,0,none⟩),.int .i64 (x:Int),.agg #[.bool (dQ M n t).e,.int .u64 (dQ M n t).d,.int .u8 (dQ M n t).l]] W fun e w'=>(∃c:Int,e= .returned (.int .i64 c))∧zM w1 lab a P n q T M (j+1) w'∧(w'.cell? ⟨a.m,7,none⟩=some (.pointer (some ⟨a.gb,0,none⟩))∧w'.cell? ⟨a.m,4,none⟩=some (.slice (some ⟨a.th,0,none⟩) n a.xt)∧w'.cell? ⟨wr.heap.size,0,none⟩=some (.int .i64 (x:Int))∧w'.cell? ⟨a.th,x*10,none⟩=some (.int .i64 t.p)∧w'.cell? ⟨a.th,x*10+1,none⟩=some (.int .u32 (t.g:Int))∧w'.cell? ⟨a.th,x*10+2,none⟩=some (.int .i64 t.pg)∧w'.cell? ⟨a.th,x*10+3,none⟩=some (.int .u8 (t.lv:Int))∧w'.cell? ⟨a.th,x*10+4,none⟩=some (.int .u8 (t.lf:Int))∧w'.cell? ⟨a.th,x*10+5,none⟩=some (.int .i64 t.sv)∧w'.cell? ⟨a.th,x*10+6,none⟩=some (.int .i64 t.pc)∧w'.cell? ⟨a.th,x*10+7,none⟩=some (.int .i64 t.ia)∧w'.cell? ⟨a.th,x*10+8,none⟩=some (.int .i64 t.il)∧w'.cell? ⟨a.th,x*10+9,none⟩=some (.int .u64 (t.sn:Int)))):=fun W hb=>by
    refine((h0.below hb).base (x:Int) (dQ M n t) hok.1).mono ?_
    rintro e w' ⟨hc,hg⟩
    have hg':=hg
    obtain⟨lab2,h2,hl2,hf2⟩:=hg
    refine⟨hc,?_,?_⟩
    ·unfold zM
     rw[kM _ _ HX.out]
     have hst:ay W w' lab1 a P n q T {M with gr:=fB n M (((ck M n).take j).foldl (fB n M) M.gr) x}:=by
      unfold fB;rw[ht];exact hg'
     exact ay.after HL1.out HF1.out (ay.ahead (bt HBW.out hb) hst)
    ·obtain⟨g0,g1,g2,g3,g4,g5,g6,g7,g8,g9⟩:bo w' a.th (x*10) t:=by rw[←ht];exact h2.th.at_ x hxn
     exact⟨h2.co.c7,h2.co.c4,hf2.keep hnl (kc hb k0),g0,g1,g2,g3,g4,g5,g6,g7,g8,g9⟩
   clear h0 hok tok
   go_wp2
   rw[HW.out]
   have H0:=aa (Below.refl W0.heap.size W0)
   go_region_held3 (fun w'=>w'.cell? ⟨a.m,7,none⟩=some (.pointer (some ⟨a.gb,0,none⟩))∧w'.cell? ⟨a.m,4,none⟩=some (.slice (some ⟨a.th,0,none⟩) n a.xt)∧w'.cell? ⟨wr.heap.size,0,none⟩=some (.int .i64 (x:Int))∧w'.cell? ⟨a.th,x*10,none⟩=some (.int .i64 t.p)∧w'.cell? ⟨a.th,x*10+1,none⟩=some (.int .u32 (t.g:Int))∧w'.cell? ⟨a.th,x*10+2,none⟩=some (.int .i64 t.pg)∧w'.cell? ⟨a.th,x*10+3,none⟩=some (.int .u8 (t.lv:Int))∧w'.cell? ⟨a.th,x*10+4,none⟩=some (.int .u8 (t.lf:Int))∧w'.cell? ⟨a.th,x*10+5,none⟩=some (.int .i64 t.sv)∧w'.cell? ⟨a.th,x*10+6,none⟩=some (.int .i64 t.pc)∧w'.cell? ⟨a.th,x*10+7,none⟩=some (.int .i64 t.ia)∧w'.cell? ⟨a.th,x*10+8,none⟩=some (.int .i64 t.il)∧w'.cell? ⟨a.th,x*10+9,none⟩=some (.int .u64 (t.sn:Int)))
    (first|exact HS2.out|exact⟨kc HB1.out c7,kc HB1.out c4,kc HB1.out k0,kc HB1.out d0,kc HB1.out d1,kc HB1.out d2,kc HB1.out d3,kc HB1.out d4,kc HB1.out d5,kc HB1.out d6,kc HB1.out d7,kc HB1.out d8,kc HB1.out d9⟩|go_keep)
    (first
     |(go_at_call 82;refine(HO.out _ (by exact bp H0.out rfl rfl rfl rfl)).mono ?_;rintro e w2 ⟨rfl,hb1⟩;have HB1:=aa hb1;clear hb1)
     |(go_at_call 81;refine(HBS.out _ (by exact bp HB1.out rfl rfl rfl rfl)).mono ?_;rintro e w3 ⟨⟨c,rfl⟩,hs,hs2⟩;have HS:=aa hs;have HS2:=aa hs2;clear hs hs2))
   go_wp2
   go_roundw
   case rel=>exact⟨j+1,by omega,by go_num,HS.out⟩
   case measure=>simp[intOf];omega
  ·have hjl': ¬(j:Int)<(len:Int):=by omega
   have hjn:j=len:=by omega
   have HSB:Hid (rf w1 lab a P n q T M 0 wr):=by
    have hs':zM w1 lab a P n q T M j wr:=hs
    unfold zM at hs'
    rw[qx (by rw[HLEN.out];omega)] at hs'
    exact hs'
   clear hs hjn
   go_wp2
   go_loopw [38] (fun iv wr=> ∃j:Nat,j≤len∧iv= .int .i64 (j:Int)∧rf w1 lab a P n q T M j wr) (fun iv _=>len-(intOf iv).toNat)
   case atStart=>exact⟨0,Nat.zero_le _,rfl,HSB.out⟩
   case round=>
    clear HSB
    obtain⟨j,hj,rfl,hs⟩:=hrel
    by_cases hjl:j<len
    ·have hjl':(j:Int)<(len:Int):=by omega
     obtain⟨x,hx⟩: ∃x,(ck M n)[j]? =some x:=⟨(ck M n)[j]'(by rw[HLEN.out];exact hjl),List.getElem?_eq_getElem _⟩
     have hxn:x<n:=rN M n x (List.mem_of_getElem? hx)
     have hxn':(x:Int)<(n:Int):=by omega
     obtain⟨rb,rfl,hrl,e0,e1⟩:=HLV.out.at_ j x hx
     obtain⟨lab1,h1,hl1,hf1⟩:=hs
     have r0:=hf1.keep hrl e0
     have r1:=hf1.keep hrl e1
     have HX:=aa hx
     clear hrl e0 e1 hx
     obtain⟨t,ht⟩: ∃t,M.th x=t:=⟨_,rfl⟩
     have hbw:Below wr.heap.size wr (wr.alloc (.cells #[.int .i64 (x:Int),.int .u32 (M.G x:Int)] 60)):=(Below.refl _ _).alloc (Nat.le_refl _) _
     have h0:=h1.below hbw
     have k0:=aV wr #[.int .i64 (x:Int),.int .u32 (M.G x:Int)] 60 0 _ rfl
     have hnl:lab1 wr.heap.size=0:=h1.fresh (Nat.le_refl _)
     have HBW:=aa hbw
     have HL1:=aa hl1
     have HF1:=aa hf1
     have H1:=aa h1
     clear hbw h1 hl1 hf1
     generalize hW:wr.alloc (.cells #[.int .i64 (x:Int),.int .u32 (M.G x:Int)] 60)=W0 at*
     have HW:=aa hW
     clear hW
     obtain⟨d0,d1,d2,d3,d4,d5,d6,d7,d8,d9⟩:bo W0 a.th (x*10) t:=by rw[←ht];exact h0.th.at_ x hxn
     have c4:=h0.co.c4
     have c7:=h0.co.c7
     have c8:=h0.co.c8
     have HS:Hid (∀W (hb:Below W0.heap.size W0 W),Calls Tryz.prog 83 #[.pointer (some ⟨a.m,0,none⟩),.agg #[.int .i64 t.p,.int .u32 (t.g:Int),.int .i64 t.pg,.int .u8 (t.lv:Int),.int .u8 (t.lf:Int),.int .i64 t.sv,.int .i64 t.pc,.int .i64 t.ia,.int .i64 t.il,.int .u64 (t.sn:Int)]] W fun e w'=>e= .returned (.int .i64 (dU M n t:Int))∧Below W0.heap.size W0 w'):=fun W hb=>((h0.below hb).state t).mono (fun _ _ ⟨e,b⟩=>And.intro e (bt hb b))
     obtain⟨k,hk⟩: ∃k,Pi.di (ik M n).T (ik M n).L (x:Int)=k:=⟨_,rfl⟩
     have hkok:k.ok:=by rw[←hk];exact h0.jj (x:Int)
     have HK:Hid (∀W (hb:Below W0.heap.size W0 W),Calls Tryz.prog 85 #[.pointer (some ⟨a.gb,0,none⟩),.int .i64 (x:Int)] W fun e w'=>e= .returned (.agg #[.bool k.e,.int .u64 k.d,.int .u8 k.l])∧Below W0.heap.size W0 w'):=fun W hb=>by
      rw[←hk]
      exact((h0.below hb).key (x:Int)).mono (fun _ _ ⟨e,b⟩=>And.intro e (bt hb b))
     by_cases hst:dU M n t=1
     ·have HC:Hid (∀W (hb:Below W0.heap.size W0 W),Calls Tryz.prog 84 #[.pointer (some ⟨a.pb,0,none⟩),.int .i64 (x:Int),.agg #[.bool k.e,.int .u64 k.d,.int .u8 k.l]] W fun e w'=>(∃c:Int,e= .returned (.int .i64 c))∧rf w1 lab a P n q T M (j+1) w'∧(w'.cell? ⟨a.m,8,none⟩=some (.pointer (some ⟨a.pb,0,none⟩))∧w'.cell? ⟨a.m,7,none⟩=some (.pointer (some ⟨a.gb,0,none⟩))∧w'.cell? ⟨wr.heap.size,0,none⟩=some (.int .i64 (x:Int)))):=fun W hb=>by
       refine((h0.below hb).change (by omega) x hxn k hkok).mono ?_
       rintro e w' ⟨hc,hg⟩
       have hg':=hg
       obtain⟨lab2,h2,hl2,hf2⟩:=hg
       refine⟨hc,?_,h2.co.c8,h2.co.c7,hf2.keep hnl (kc hb k0)⟩
       unfold rf
       rw[kM _ _ HX.out]
       have hst':ay W w' lab1 a P n q (T+(j+1)) {M with gr:=ik M n,pl:=fN n M (ik M n) (((ck M n).take j).foldl (fN n M (ik M n)) M.pl) x}:=by
        unfold fN;rw[ht,if_pos hst,hk];exact hg'
       exact ay.after HL1.out HF1.out (ay.ahead (bt HBW.out hb) hst')
      have hstb:((dU M n t:Int)==1)=true:=by simp;omega
      clear h0 hkok hk H1
      rw[hst] at HS
      clear hst hstb
      go_wp2
      rw[HW.out]
      have H0:=aa (Below.refl W0.heap.size W0)
      go_region_held3 (fun w'=>w'.cell? ⟨a.m,4,none⟩=some (.slice (some ⟨a.th,0,none⟩) n a.xt)∧w'.cell? ⟨wr.heap.size,0,none⟩=some (.int .i64 (x:Int))∧w'.cell? ⟨a.th,x*10,none⟩=some (.int .i64 t.p)∧w'.cell? ⟨a.th,x*10+1,none⟩=some (.int .u32 (t.g:Int))∧w'.cell? ⟨a.th,x*10+2,none⟩=some (.int .i64 t.pg)∧w'.cell? ⟨a.th,x*10+3,none⟩=some (.int .u8 (t.lv:Int))∧w'.cell? ⟨a.th,x*10+4,none⟩=some (.int .u8 (t.lf:Int))∧w'.cell? ⟨a.th,x*10+5,none⟩=some (.int .i64 t.sv)∧w'.cell? ⟨a.th,x*10+6,none⟩=some (.int .i64 t.pc)∧w'.cell? ⟨a.th,x*10+7,none⟩=some (.int .i64 t.ia)∧w'.cell? ⟨a.th,x*10+8,none⟩=some (.int .i64 t.il)∧w'.cell? ⟨a.th,x*10+9,none⟩=some (.int .u64 (t.sn:Int)))
       (first|exact⟨kc HB1.out c4,kc HB1.out k0,kc HB1.out d0,kc HB1.out d1,kc HB1.out d2,kc HB1.out d3,kc HB1.out d4,kc HB1.out d5,kc HB1.out d6,kc HB1.out d7,kc HB1.out d8,kc HB1.out d9⟩|go_keep)
       (first
        |(go_at_call 83;refine(HS.out _ (by exact bp H0.out rfl rfl rfl rfl)).mono ?_;rintro e w2 ⟨rfl,hb1⟩;have HB1:=aa hb1;clear hb1))
      have c8':=kc HB1.out c8
      have c7':=kc HB1.out c7
      have k0':=kc HB1.out k0
      go_wp2
      go_region_held3 (fun w'=>w'.cell? ⟨a.m,8,none⟩=some (.pointer (some ⟨a.pb,0,none⟩))∧w'.cell? ⟨a.m,7,none⟩=some (.pointer (some ⟨a.gb,0,none⟩))∧w'.cell? ⟨wr.heap.size,0,none⟩=some (.int .i64 (x:Int)))
       (first|exact HS2.out|exact⟨kc HB2.out c8,kc HB2.out c7,kc HB2.out k0⟩|go_keep)
       (first
        |(go_at_call 85;refine(HK.out _ (by exact bp HB1.out rfl rfl rfl rfl)).mono ?_;rintro e w3 ⟨rfl,hb2⟩;have HB2:=aa hb2;clear hb2)
        |(go_at_call 84;refine(HC.out _ (by exact bp HB2.out rfl rfl rfl rfl)).mono ?_;rintro e w4 ⟨⟨c,rfl⟩,hs,hs2⟩;have HSB:=aa hs;have HS2:=aa hs2;clear hs hs2))
      go_wp2
      go_roundw
      case rel=>exact⟨j+1,by omega,by go_num,HSB.out⟩
      case measure=>simp[intOf];omega
     ·have hstb:((dU M n t:Int)==1)=false:=by simp;omega
      have HC:Hid (∀W (hb:Below W0.heap.size W0 W),rf w1 lab a P n q T M (j+1) W):=fun W hb=>by
       unfold rf
       rw[kM _ _ HX.out]
       have hst':ay W W lab1 a P n q (T+(j+1)) {M with gr:=ik M n,pl:=fN n M (ik M n) (((ck M n).take j).foldl (fN n M (ik M n)) M.pl) x}:=by
        unfold fN;rw[ht,if_neg hst];exact((h0.below hb).uG (by omega)).goes
       exact ay.after HL1.out HF1.out (ay.ahead (bt HBW.out hb) hst')
      clear h0 hkok hk H1 hst
      go_wp2
      rw[HW.out]
      have H0:=aa (Below.refl W0.heap.size W0)
      go_region_held3 (fun w'=>w'.cell? ⟨a.m,4,none⟩=some (.slice (some ⟨a.th,0,none⟩) n a.xt)∧w'.cell? ⟨wr.heap.size,0,none⟩=some (.int .i64 (x:Int))∧w'.cell? ⟨a.th,x*10,none⟩=some (.int .i64 t.p)∧w'.cell? ⟨a.th,x*10+1,none⟩=some (.int .u32 (t.g:Int))∧w'.cell? ⟨a.th,x*10+2,none⟩=some (.int .i64 t.pg)∧w'.cell? ⟨a.th,x*10+3,none⟩=some (.int .u8 (t.lv:Int))∧w'.cell? ⟨a.th,x*10+4,none⟩=some (.int .u8 (t.lf:Int))∧w'.cell? ⟨a.th,x*10+5,none⟩=some (.int .i64 t.sv)∧w'.cell? ⟨a.th,x*10+6,none⟩=some (.int .i64 t.pc)∧w'.cell? ⟨a.th,x*10+7,none⟩=some (.int .i64 t.ia)∧w'.cell? ⟨a.th,x*10+8,none⟩=some (.int .i64 t.il)∧w'.cell? ⟨a.th,x*10+9,none⟩=some (.int .u64 (t.sn:Int)))
       (first|exact⟨kc HB1.out c4,kc HB1.out k0,kc HB1.out d0,kc HB1.out d1,kc HB1.out d2,kc HB1.out d3,kc HB1.out d4,kc HB1.out d5,kc HB1.out d6,kc HB1.out d7,kc HB1.out d8,kc HB1.out d9⟩|go_keep)
       (first
        |(go_at_call 83;refine(HS.out _ (by exact bp H0.out rfl rfl rfl rfl)).mono ?_;rintro e w2 ⟨rfl,hb1⟩;have HB1:=aa hb1;clear hb1))
      go_wp2
      go_roundw
      case rel=>exact⟨j+1,by omega,by go_num,HC.out _ HB1.out⟩
      case measure=>simp[intOf];omega
    ·have hjl': ¬(j:Int)<(len:Int):=by omega
     have hjn:j=len:=by omega
     have HE:Hid (ay w wr lab a P n q (T+n) (Go.Proofs.YtdbailcdlngemaaGreatDoor.settle M n)):=by
      have hs':rf w1 lab a P n q T M j wr:=hs
      unfold rf at hs'
      rw[qx (by rw[HLEN.out];omega)] at hs'
      exact ay.ahead HB.out (hs'.uG (by omega))
     clear hs hjn
     go_wp2
     go_end0
     exact⟨rfl,HE.out⟩
end
section
variable {w w':World} {b o:Nat} {t:Tr}
theorem aw (w:World) {b o o':Nat} {u:Value} (h: ¬o'=o):(w.setCell ⟨b,o',none⟩ u).cell? ⟨b,o,none⟩=w.cell? ⟨b,o,none⟩:=Gt.ab _ _ _ _ _ _ (fun q=>h q.2)
theorem bo.ka (h:bo w b o t) {o':Nat} (ho:o'<o∨o+10≤o') (u:Value):bo (w.setCell ⟨b,o',none⟩ u) b o t:=
 ⟨(aw w (by omega)).trans h.c0,(aw w (by omega)).trans h.c1,(aw w (by omega)).trans h.c2,(aw w (by omega)).trans h.c3,(aw w (by omega)).trans h.c4,(aw w (by omega)).trans h.c5,(aw w (by omega)).trans h.c6,(aw w (by omega)).trans h.c7,(aw w (by omega)).trans h.c8,(aw w (by omega)).trans h.c9⟩
theorem bo.Dz (h:bo w b o t) (v:Int):bo (w.setCell ⟨b,o,none⟩ (.int .i64 v)) b o {t with p:=v}:=
 ⟨Gt.au _ _ _ _ h.c0,(aw w (by omega)).trans h.c1,(aw w (by omega)).trans h.c2,(aw w (by omega)).trans h.c3,(aw w (by omega)).trans h.c4,(aw w (by omega)).trans h.c5,(aw w (by omega)).trans h.c6,(aw w (by omega)).trans h.c7,(aw w (by omega)).trans h.c8,(aw w (by omega)).trans h.c9⟩
theorem bo.DV (h:bo w b o t) (v:Nat):bo (w.setCell ⟨b,o+1,none⟩ (.int .u32 (v:Int))) b o {t with g:=v}:=
 ⟨(aw w (by omega)).trans h.c0,Gt.au _ _ _ _ h.c1,(aw w (by omega)).trans h.c2,(aw w (by omega)).trans h.c3,(aw w (by omega)).trans h.c4,(aw w (by omega)).trans h.c5,(aw w (by omega)).trans h.c6,(aw w (by omega)).trans h.c7,(aw w (by omega)).trans h.c8,(aw w (by omega)).trans h.c9⟩
theorem bo.EM (h:bo w b o t) (v:Int):bo (w.setCell ⟨b,o+2,none⟩ (.int .i64 v)) b o {t with pg:=v}:=
 ⟨(aw w (by omega)).trans h.c0,(aw w (by omega)).trans h.c1,Gt.au _ _ _ _ h.c2,(aw w (by omega)).trans h.c3,(aw w (by omega)).trans h.c4,(aw w (by omega)).trans h.c5,(aw w (by omega)).trans h.c6,(aw w (by omega)).trans h.c7,(aw w (by omega)).trans h.c8,(aw w (by omega)).trans h.c9⟩
theorem bo.Fv (h:bo w b o t) (v:Nat):bo (w.setCell ⟨b,o+3,none⟩ (.int .u8 (v:Int))) b o {t with lv:=v}:=
 ⟨(aw w (by omega)).trans h.c0,(aw w (by omega)).trans h.c1,(aw w (by omega)).trans h.c2,Gt.au _ _ _ _ h.c3,(aw w (by omega)).trans h.c4,(aw w (by omega)).trans h.c5,(aw w (by omega)).trans h.c6,(aw w (by omega)).trans h.c7,(aw w (by omega)).trans h.c8,(aw w (by omega)).trans h.c9⟩
theorem bo.tv (h:bo w b o t) (v:Nat):bo (w.setCell ⟨b,o+4,none⟩ (.int .u8 (v:Int))) b o {t with lf:=v}:=
 ⟨(aw w (by omega)).trans h.c0,(aw w (by omega)).trans h.c1,(aw w (by omega)).trans h.c2,(aw w (by omega)).trans h.c3,Gt.au _ _ _ _ h.c4,(aw w (by omega)).trans h.c5,(aw w (by omega)).trans h.c6,(aw w (by omega)).trans h.c7,(aw w (by omega)).trans h.c8,(aw w (by omega)).trans h.c9⟩
theorem bo.D6 (h:bo w b o t) (v:Int):bo (w.setCell ⟨b,o+5,none⟩ (.int .i64 v)) b o {t with sv:=v}:=
 ⟨(aw w (by omega)).trans h.c0,(aw w (by omega)).trans h.c1,(aw w (by omega)).trans h.c2,(aw w (by omega)).trans h.c3,(aw w (by omega)).trans h.c4,Gt.au _ _ _ _ h.c5,(aw w (by omega)).trans h.c6,(aw w (by omega)).trans h.c7,(aw w (by omega)).trans h.c8,(aw w (by omega)).trans h.c9⟩
theorem bo.Aa (h:bo w b o t) (v:Int):bo (w.setCell ⟨b,o+6,none⟩ (.int .i64 v)) b o {t with pc:=v}:=
 ⟨(aw w (by omega)).trans h.c0,(aw w (by omega)).trans h.c1,(aw w (by omega)).trans h.c2,(aw w (by omega)).trans h.c3,(aw w (by omega)).trans h.c4,(aw w (by omega)).trans h.c5,Gt.au _ _ _ _ h.c6,(aw w (by omega)).trans h.c7,(aw w (by omega)).trans h.c8,(aw w (by omega)).trans h.c9⟩
theorem bo.ET (h:bo w b o t) (v:Int):bo (w.setCell ⟨b,o+7,none⟩ (.int .i64 v)) b o {t with ia:=v}:=
 ⟨(aw w (by omega)).trans h.c0,(aw w (by omega)).trans h.c1,(aw w (by omega)).trans h.c2,(aw w (by omega)).trans h.c3,(aw w (by omega)).trans h.c4,(aw w (by omega)).trans h.c5,(aw w (by omega)).trans h.c6,Gt.au _ _ _ _ h.c7,(aw w (by omega)).trans h.c8,(aw w (by omega)).trans h.c9⟩
theorem bo.Fk (h:bo w b o t) (v:Int):bo (w.setCell ⟨b,o+8,none⟩ (.int .i64 v)) b o {t with il:=v}:=
 ⟨(aw w (by omega)).trans h.c0,(aw w (by omega)).trans h.c1,(aw w (by omega)).trans h.c2,(aw w (by omega)).trans h.c3,(aw w (by omega)).trans h.c4,(aw w (by omega)).trans h.c5,(aw w (by omega)).trans h.c6,(aw w (by omega)).trans h.c7,Gt.au _ _ _ _ h.c8,(aw w (by omega)).trans h.c9⟩
theorem bo.Ak (h:bo w b o t) (v:Nat):bo (w.setCell ⟨b,o+9,none⟩ (.int .u64 (v:Int))) b o {t with sn:=v}:=
 ⟨(aw w (by omega)).trans h.c0,(aw w (by omega)).trans h.c1,(aw w (by omega)).trans h.c2,(aw w (by omega)).trans h.c3,(aw w (by omega)).trans h.c4,(aw w (by omega)).trans h.c5,(aw w (by omega)).trans h.c6,(aw w (by omega)).trans h.c7,(aw w (by omega)).trans h.c8,Gt.au _ _ _ _ h.c9⟩
end
section
variable {w w':World} {lab:Nat→Nat} {a:Ad} {P n q T:Nat} {M:Mc}
theorem Bn.put {b:Nat} {f:Nat→Tr} (h:Bn w b n f) {x:Nat} {t:Tr} (ht:bo w' b (x*10) t) (hok:t.ok) (hfar: ∀j,j<n→j≠x→bo w' b (j*10) (f j)) (hfz: ∀o,w'.frozen? ⟨b,o,none⟩=false):Bn w' b n (Gt.ax f x t):=by
 refine⟨fun i hi=> ?_,hfz,fun i hi=> ?_⟩
 ·by_cases e:i=x
  ·rw[e,Gt.aj];exact ht
  ·rw[Gt.ai _ _ _ _ e];exact hfar i hi e
 ·by_cases e:i=x
  ·rw[e,Gt.aj];exact hok
  ·rw[Gt.ai _ _ _ _ e];exact h.ok i hi
theorem uU {x j i:Nat} (h:j≠x) (hi:i<10):x*10+i<j*10∨j*10+10≤x*10+i:=by omega
theorem aM (w:World) (a:Addr) (u:Value) (p:Addr):(w.setCell a u).frozen? p=w.frozen? p:=World.frozen?_setCell _ _ _ _
theorem aD.mh (h:aD w lab a P n q T M) {x:Nat} (hx:x<n) (s:Nat) (hs:s<18446744073709551616) (l:Nat) (hl:l<256):
  ay w ((w.setCell ⟨a.th,x*10+9,none⟩ (.int .u64 (s:Int))).setCell ⟨a.th,x*10+4,none⟩ (.int .u8 (l:Int))) lab a P n q T {M with th:=Gt.ax M.th x {M.th x with sn:=s,lf:=l}}:=by
 have ok:=h.th.ok x hx
 have hf:Fr (fun k=>lab k=4) w ((w.setCell ⟨a.th,x*10+9,none⟩ (.int .u64 (s:Int))).setCell ⟨a.th,x*10+4,none⟩ (.int .u8 (l:Int))):=((Fr.refl _ _).setCell (a:=⟨a.th,_,none⟩) h.lth _).setCell (a:=⟨a.th,_,none⟩) h.lth _
 refine⟨lab,h.Ew (h.same hf) hf (h.th.put (((h.th.at_ x hx).Ak s).tv l) ⟨ok.g,ok.lv,hl,ok.il,hs⟩ (fun j hj hne=>((h.th.at_ j hj).ka (uU hne (by decide)) _).ka (uU hne (by decide)) _) (fun o=>by rw[aM,aM];exact h.th.fz o)),h.same hf,hf.to (fun k _ hk=> ?_)⟩
 rw[hk];decide
def dR (n:Nat) (G S:Nat→Nat) (p:Int) (g s:Nat):Nat→Nat:=if Gt.hasB n G S p g=true∧Gt.mu (S p.toNat) s=true then Gt.ax S p.toNat s else S
theorem aD.move (h:aD w lab a P n q T M) (p:Int) (g s:Nat):
  Calls Tryz.prog 106 #[.pointer (some ⟨a.tb,0,none⟩),.agg #[.int .i64 p,.int .u32 (g:Int)],.int .i64 (s:Int)] w fun e w'=>(∃c:Int,e= .returned (.int .i64 c))∧ay w w' lab a P n q T {M with S:=dR n M.G M.S p g s}:=by
 cases hh:Gt.hasB n M.G M.S p g with
 |false=>
  refine(Gt.wx h.tb p (s:Int) g hh).mono ?_
  rintro e w' ⟨rfl,hb⟩
  refine⟨⟨_,rfl⟩,?_⟩
  unfold dR
  rw[if_neg (by rw[hh];simp)]
  exact h.stay hb
 |true=>
  obtain⟨x,rfl,h1,h2,h3⟩:=Gt.oh hh
  cases hm:Gt.mu (M.S x) s with
  |false=>
   refine(Gt.sH h.tb h.t0 x g (s:Int) h1 h2 h3 hm).mono ?_
   rintro e w' ⟨rfl,hb⟩
   refine⟨⟨_,rfl⟩,?_⟩
   unfold dR
   rw[if_neg (by rw[Int.toNat_natCast,hm];simp)]
   exact h.stay hb
  |true=>
   refine(Gt.vZ h.tb h.t0 x g s h1 h2 h3 hm).mono ?_
   rintro e w' ⟨rfl,hr,hf⟩
   refine⟨⟨_,rfl⟩,?_⟩
   unfold dR
   rw[if_pos ⟨hh,by rw[Int.toNat_natCast,hm]⟩,Int.toNat_natCast]
   have h5:Fr (fun k=>lab k=5) w w':=(FY hf).to (fun k _ hk=>by rw[hk];exact h.ltb.2)
   exact⟨lab,h.DQ (h.same h5) h5 hr,h.same h5,h5.to (fun k _ hk=>by rw[hk];decide)⟩
theorem aD.FI (h:aD w lab a P n q T M) (i:Int) (now:Nat) (hn:now<18446744073709551616):
  Calls Tryz.prog 131 #[.pointer (some ⟨a.sb,0,none⟩),.int .i64 i,.int .u64 (now:Int)] w fun e w'=>(∃c:Int,e= .returned (.int .i64 c))∧ay w w' lab a P n q T {M with sv:=Cb.ki M.sv i now}:=by
 obtain⟨base,v,hp,hv⟩:=h.sv
 rcases Cb.oF M.sv i with ⟨e1,e2⟩|⟨k,x,rfl,hx⟩
 ·refine(Cb.tq hp i now e2).mono ?_
  rintro e w' ⟨rfl,rfl⟩
  refine⟨⟨_,rfl⟩,?_⟩
  unfold Cb.ki
  rw[if_neg (by rw[e1];simp)]
  exact h.goes
 ·have e1:=Cb.ri hx
  by_cases hd:x.d≤now
  ·refine(Cb.yk hp k now x hx hd hn).mono ?_
   rintro e w' ⟨rfl,hr,hf⟩
   refine⟨⟨_,rfl⟩,?_⟩
   unfold Cb.ki
   rw[e1.1,if_pos ⟨e1.2,hd⟩,Int.toNat_natCast]
   have h6:Fr (fun k=>lab k=6) w w':=(Hh hf).to (fun k _ hk=>hv k hk.symm)
   exact⟨lab,h.Gm (h.same h6) h6 hr hv,h.same h6,h6.to (fun k _ hk=>by rw[hk];decide)⟩
  ·refine(Cb.Ac hp k now x hx hd).mono ?_
   rintro e w' ⟨rfl,hb⟩
   refine⟨⟨_,rfl⟩,?_⟩
   unfold Cb.ki
   rw[e1.1,if_neg (fun q=>hd q.2)]
   exact h.stay hb
theorem aD.put (h:aD w lab a P n q T M) (hT:T≤1000000000) (p id:Int) (k:Ke.K) (hk:k.ok):
  Calls Tryz.prog 132 #[.pointer (some ⟨a.pb,0,none⟩),.int .i64 p,.int .i64 id,.agg #[.bool k.e,.int .u64 k.d,.int .u8 k.l]] w fun e w'=>(∃c:Int,e= .returned (.int .i64 c))∧ay w w' lab a P n q (T+1) {M with pl:=eM P n q (gh M.pl) p id k}:=by
 obtain⟨O,hp,hO⟩:=h.pl
 refine(hp.put hT p id k hk).mono ?_
 rintro e w' ⟨rfl,hp',hf⟩
 have h8:Fr (fun k=>lab k=8) w w':=hf.to (fun k _ hk=>hO k hk)
 exact⟨⟨_,rfl⟩,lab,h.Fh (h.same h8) h8 hp' hO,h.same h8,h8.to (fun k _ hk=>by rw[hk];decide)⟩
noncomputable def cB (n:Nat) (M:Mc) (x:Nat):Mc:={M with S:=dR n M.G M.S (M.th x).p (M.th x).g 1,th:=Gt.ax M.th x {M.th x with sn:=M.nw,lf:=0}}
noncomputable def bU (n:Nat) (M:Mc) (x:Nat):Mc:=if dU M n (M.th x)=2 then cB n M x else{cB n M x with sv:=Cb.ki M.sv (M.th x).sv M.nw}
noncomputable def cf (n:Nat) (M:Mc) (x:Nat):Mc:=settle (bU n M x) n
noncomputable def ready (P n q:Nat) (M:Mc) (x:Nat) (proc:Int):Mc:={cf n M x with pl:=eM P n q (gh (cf n M x).pl) proc (x:Int) (Pi.di (cf n M x).gr.T (cf n M x).gr.L (x:Int))}
end
section
variable {w W W':World} {lab:Nat→Nat} {a:Ad} {P n q T:Nat} {M:Mc}
theorem gp (h:ay w W lab a P n q T M) (e1:W'.heap=W.heap) (e2:W'.os=W.os) (e3:W'.tape=W.tape) (e4:W'.output=W.output):ay w W' lab a P n q T M:=
 h.more (aQ (Below.refl _ _) e1 e2 e3 e4)
theorem ay.core (h:ay w W lab a P n q T M):Core W a P n M.qu M.ag:=h.elim fun _ q=>q.1.co
theorem ay.tr (h:ay w W lab a P n q T M) {x:Nat} (hx:x<n):bo W a.th (x*10) (M.th x):=h.elim fun _ q=>q.1.th.at_ x hx
theorem ay.GZ (h:ay w W lab a P n q T M) (o:Nat):W.frozen? ⟨a.th,o,none⟩=false:=h.elim fun _ q=>q.1.th.fz o
theorem ay.G1 (h:ay w W lab a P n q T M):M.nw<18446744073709551616:=h.elim fun _ q=>q.1.G1
theorem ay.size (h:ay w W lab a P n q T M):w.heap.size≤W.heap.size:=h.elim fun _ q=>q.2.2.size
theorem ay.jj (h:ay w W lab a P n q T M) (t:Int):(Pi.di M.gr.T M.gr.L t).ok:=h.elim fun _ q=>q.1.jj t
theorem ay.state (h:ay w W lab a P n q T M) (t:Tr):
  Calls Tryz.prog 83 #[.pointer (some ⟨a.m,0,none⟩),.agg #[.int .i64 t.p,.int .u32 (t.g:Int),.int .i64 t.pg,.int .u8 (t.lv:Int),.int .u8 (t.lf:Int),.int .i64 t.sv,.int .i64 t.pc,.int .i64 t.ia,.int .i64 t.il,.int .u64 (t.sn:Int)]] W fun e w'=>e= .returned (.int .i64 (dU M n t:Int))∧ay w w' lab a P n q T M:=by
 obtain⟨l1,i1,b1,f1⟩:=id h
 exact(i1.state t).mono (fun _ _ ⟨e,b⟩=>⟨e,h.more b⟩)
theorem ay.now (h:ay w W lab a P n q T M):
  Calls Tryz.prog 88 #[.pointer (some ⟨a.m,0,none⟩)] W fun e w'=>e= .returned (.int .u64 (M.nw:Int))∧w'=W:=by
 obtain⟨l1,i1,b1,f1⟩:=id h
 exact i1.now
theorem ay.GK (h:ay w W lab a P n q T M):
  Calls Tryz.prog 88 #[.pointer (some ⟨a.m,0,none⟩)] W fun e w'=>e= .returned (.int .u64 (M.nw:Int))∧ay w w' lab a P n q T M:=
 h.now.mono (fun _ _ ⟨e,b⟩=>⟨e,by rw[b];exact h⟩)
theorem ay.key (h:ay w W lab a P n q T M) (t:Int):
  Calls Tryz.prog 85 #[.pointer (some ⟨a.gb,0,none⟩),.int .i64 t] W fun e w'=>e= .returned (.agg #[.bool (Pi.di M.gr.T M.gr.L t).e,.int .u64 (Pi.di M.gr.T M.gr.L t).d,.int .u8 (Pi.di M.gr.T M.gr.L t).l])∧ay w w' lab a P n q T M:=by
 obtain⟨l1,i1,b1,f1⟩:=id h
 exact(i1.key t).mono (fun _ _ ⟨e,b⟩=>⟨e,h.more b⟩)
theorem ay.move (h:ay w W lab a P n q T M) (p:Int) (g s:Nat):
  Calls Tryz.prog 106 #[.pointer (some ⟨a.tb,0,none⟩),.agg #[.int .i64 p,.int .u32 (g:Int)],.int .i64 (s:Int)] W fun e w'=>(∃c:Int,e= .returned (.int .i64 c))∧ay w w' lab a P n q T {M with S:=dR n M.G M.S p g s}:=by
 obtain⟨l1,i1,b1,f1⟩:=id h
 exact(i1.move p g s).mono (fun _ _ ⟨e,b⟩=>⟨e,ay.after b1 f1 b⟩)
theorem ay.FI (h:ay w W lab a P n q T M) (i:Int) (now:Nat) (hn:now<18446744073709551616):
  Calls Tryz.prog 131 #[.pointer (some ⟨a.sb,0,none⟩),.int .i64 i,.int .u64 (now:Int)] W fun e w'=>(∃c:Int,e= .returned (.int .i64 c))∧ay w w' lab a P n q T {M with sv:=Cb.ki M.sv i now}:=by
 obtain⟨l1,i1,b1,f1⟩:=id h
 exact(i1.FI i now hn).mono (fun _ _ ⟨e,b⟩=>⟨e,ay.after b1 f1 b⟩)
theorem ay.put (h:ay w W lab a P n q T M) (hT:T≤1000000000) (p id:Int) (k:Ke.K) (hk:k.ok):
  Calls Tryz.prog 132 #[.pointer (some ⟨a.pb,0,none⟩),.int .i64 p,.int .i64 id,.agg #[.bool k.e,.int .u64 k.d,.int .u8 k.l]] W fun e w'=>(∃c:Int,e= .returned (.int .i64 c))∧ay w w' lab a P n q (T+1) {M with pl:=eM P n q (gh M.pl) p id k}:=by
 obtain⟨l1,i1,b1,f1⟩:=h
 exact(i1.put hT p id k hk).mono (fun _ _ ⟨e,b⟩=>⟨e,ay.after b1 f1 b⟩)
theorem ay.settle (h:ay w W lab a P n q T M) (hT:T+n≤1000000000):
  Calls Tryz.prog 54 #[.pointer (some ⟨a.m,0,none⟩)] W fun e w'=>e= .returned (.tuple #[])∧ay w w' lab a P n q (T+n) (Go.Proofs.YtdbailcdlngemaaGreatDoor.settle M n):=by
 obtain⟨l1,i1,b1,f1⟩:=h
 exact(i1.settle hT).mono (fun _ _ ⟨e,b⟩=>⟨e,ay.after b1 f1 b⟩)
theorem ay.mh (h:ay w W lab a P n q T M) {x:Nat} (hx:x<n) (s:Nat) (hs:s<18446744073709551616) (l:Nat) (hl:l<256):
  ay w ((W.setCell ⟨a.th,x*10+9,none⟩ (.int .u64 (s:Int))).setCell ⟨a.th,x*10+4,none⟩ (.int .u8 (l:Int))) lab a P n q T {M with th:=Gt.ax M.th x {M.th x with sn:=s,lf:=l}}:=by
 obtain⟨l1,i1,b1,f1⟩:=h
 exact ay.after b1 f1 (i1.mh hx s hs l hl)
theorem ay.ready (h:ay w W lab a P n q T M) (hT:T+n≤1000000000) (x:Nat) (hx:x<n) (proc:Int):
  Calls Tryz.prog 91 #[.pointer (some ⟨a.m,0,none⟩),.int .i64 (x:Int),.int .i64 proc] W fun e w'=>e= .returned (.tuple #[])∧ay w w' lab a P n q (T+n+1) (Go.Proofs.YtdbailcdlngemaaGreatDoor.ready P n q M x proc):=by
 obtain⟨t,ht⟩: ∃t,M.th x=t:=⟨_,rfl⟩
 have hx':(x:Int)<(n:Int):=by omega
 obtain⟨d0,d1,d2,d3,d4,d5,d6,d7,d8,d9⟩:bo W a.th (x*10) t:=by rw[←ht];exact h.tr hx
 have c4:=h.core.c4
 have hnw:=h.G1
 have H0:=aa h
 have HS:=aa (fun W (h:ay w W lab a P n q T M)=>h.state t)
 have HM:Hid (∀W (h:ay w W lab a P n q T M),Calls Tryz.prog 106 #[.pointer (some ⟨a.tb,0,none⟩),.agg #[.int .i64 t.p,.int .u32 (t.g:Int)],.int .i64 1] W fun e w'=>(∃c:Int,e= .returned (.int .i64 c))∧ay w w' lab a P n q T {M with S:=dR n M.G M.S t.p t.g 1}):=fun W h=>h.move t.p t.g 1
 have HR1:Hid (∀W,ay w W lab a P n q T {M with S:=dR n M.G M.S t.p t.g 1}→ay w ((W.setCell ⟨a.th,x*10+9,none⟩ (.int .u64 (M.nw:Int))).setCell ⟨a.th,x*10+4,none⟩ (.int .u8 0)) lab a P n q T (cB n M x)):=fun W h=>by
  have:=h.mh hx M.nw hnw 0 (by decide)
  unfold cB
  rw[ht]
  rw[←ht] at this
  rw[←ht]
  exact this
 clear h
 have HTT:Hid (∀W (h:ay w W lab a P n q T M),W.cell? ⟨a.th,x*10,none⟩=some (.int .i64 t.p)∧W.cell? ⟨a.th,x*10+1,none⟩=some (.int .u32 (t.g:Int))):=fun W h=>by rw[←ht];exact⟨(h.tr hx).c0,(h.tr hx).c1⟩
 by_cases hst:dU M n t=2
 ·have hstb:((dU M n t:Int) !=2)=false:=by simp;omega
  have e2:bU n M x=cB n M x:=by unfold bU;rw[ht,if_pos hst]
  have HST:Hid (∀W (h:ay w W lab a P n q T (bU n M x)),Calls Tryz.prog 54 #[.pointer (some ⟨a.m,0,none⟩)] W fun e w'=>e= .returned (.tuple #[])∧ay w w' lab a P n q (T+n) (cf n M x)):=fun W h=>h.settle hT
  obtain⟨k,hk⟩: ∃k,Pi.di (cf n M x).gr.T (cf n M x).gr.L (x:Int)=k:=⟨_,rfl⟩
  have HK:Hid (∀W (h:ay w W lab a P n q (T+n) (cf n M x)),Calls Tryz.prog 85 #[.pointer (some ⟨a.gb,0,none⟩),.int .i64 (x:Int)] W fun e w'=>e= .returned (.agg #[.bool k.e,.int .u64 k.d,.int .u8 k.l])∧ay w w' lab a P n q (T+n) (cf n M x)):=fun W h=>by
   rw[←hk];exact h.key (x:Int)
  have HP:Hid (∀W (h:ay w W lab a P n q (T+n) (cf n M x)),Calls Tryz.prog 132 #[.pointer (some ⟨a.pb,0,none⟩),.int .i64 proc,.int .i64 (x:Int),.agg #[.bool k.e,.int .u64 k.d,.int .u8 k.l]] W fun e w'=>(∃c:Int,e= .returned (.int .i64 c))∧ay w w' lab a P n q (T+n+1) (Go.Proofs.YtdbailcdlngemaaGreatDoor.ready P n q M x proc)):=fun W h=>by
   unfold Go.Proofs.YtdbailcdlngemaaGreatDoor.ready
   have hok:=h.jj (x:Int)
   rw[hk] at hok⊢
   exact h.put hT proc (x:Int) k hok
  have HFT:Hid (∀W,ay w W lab a P n q T {M with S:=dR n M.G M.S t.p t.g 1}→bo W a.th (x*10) t∧ ∀o,W.frozen? ⟨a.th,o,none⟩=false):=fun W h=>⟨by rw[←ht];exact h.tr hx,h.GZ⟩
  have HFR:Hid (∀W,ay w W lab a P n q T (cB n M x)→W.cell? ⟨a.th,x*10+5,none⟩=some (.int .i64 t.sv)):=fun W h=>by
   have:=(h.tr hx).c5
   unfold cB at this
   simp only[Gt.aj] at this
   rw[ht] at this
   exact this
  have HNW:Hid (∀W,ay w W lab a P n q T {M with S:=dR n M.G M.S t.p t.g 1}→Calls Tryz.prog 88 #[.pointer (some ⟨a.m,0,none⟩)] W fun e w'=>e= .returned (.int .u64 (M.nw:Int))∧w'=W):=fun W h=>h.now
  have HNV:Hid (∀W,ay w W lab a P n q T (cB n M x)→Calls Tryz.prog 88 #[.pointer (some ⟨a.m,0,none⟩)] W fun e w'=>e= .returned (.int .u64 (M.nw:Int))∧ay w w' lab a P n q T (cB n M x)):=fun W h=>h.GK
  clear ht hst hnw hk
  rw[e2] at HST
  clear e2
  go_enter Tryz.func91,Tryz.ntmps91
  go_wp2_with (first
   |(go_at_call 83;refine(HS.out _ H0.out).mono ?_;rintro e w1 ⟨rfl,hg⟩;have HG1:=aa hg;clear hg))
  have c5:=HG1.out.core.c5
  have HT1:=aa (fun W (h:ay w W lab a P n q T M)=>h.tr hx)
  clear d0 d1 d2 d3 d4 d5 d6 d7 d8 d9
  obtain⟨d0,d1⟩:w1.cell? ⟨a.th,x*10,none⟩=some (.int .i64 t.p)∧w1.cell? ⟨a.th,x*10+1,none⟩=some (.int .u32 (t.g:Int)):=HTT.out _ HG1.out
  go_region_held3 (fun w'=>w'.cell? ⟨a.m,5,none⟩=some (.pointer (some ⟨a.tb,0,none⟩))∧w'.cell? ⟨a.th,x*10,none⟩=some (.int .i64 t.p)∧w'.cell? ⟨a.th,x*10+1,none⟩=some (.int .u32 (t.g:Int)))
   (first|exact⟨HG2.out.core.c5,e0,e1⟩|go_keep)
   (first
    |(go_at_call 106;refine(HM.out _ (by exact gp HG1.out rfl rfl rfl rfl)).mono ?_;rintro e w2 ⟨⟨c,rfl⟩,hg⟩;have HG2:=aa hg;clear hg;obtain⟨⟨e0,e1,e2,e3,e4,e5,e6,e7,e8,e9⟩,fz⟩:=HFT.out _ HG2.out))
  go_upto_region 4 with (first
   |(go_at_call 88;refine(HNW.out _ HG2.out).mono ?_;rintro e w3 ⟨rfl,hw⟩;replace hw:=hw.symm;subst hw))
  have HG3:=aa (HR1.out _ HG2.out)
  clear e0 e1 e2 e3 e4 e5 e6 e7 e8 e9 fz
  generalize (w2.setCell ⟨a.th,x*10+9,none⟩ (.int .u64 (M.nw:Int))).setCell ⟨a.th,x*10+4,none⟩ (.int .u8 0)=w3 at*
  clear c4 c5 d0 d1
  go_upto_region 7 with (first
   |(go_at_call 54;refine(HST.out _ (by exact gp HG3.out rfl rfl rfl rfl)).mono ?_;rintro e w6 ⟨rfl,hg⟩;have HG6:=aa hg;clear hg))
  have c8:=HG6.out.core.c8
  have c7:=HG6.out.core.c7
  go_region_held3 (fun w'=>w'.cell? ⟨a.m,8,none⟩=some (.pointer (some ⟨a.pb,0,none⟩))∧w'.cell? ⟨a.m,7,none⟩=some (.pointer (some ⟨a.gb,0,none⟩)))
   (first|exact⟨HG8.out.core.c8,HG8.out.core.c7⟩|exact⟨HG7.out.core.c8,HG7.out.core.c7⟩|go_keep)
   (first
    |(go_at_call 85;refine(HK.out _ (by exact gp HG6.out rfl rfl rfl rfl)).mono ?_;rintro e w7 ⟨rfl,hg⟩;have HG7:=aa hg;clear hg)
    |(go_at_call 132;refine(HP.out _ (by exact gp HG7.out rfl rfl rfl rfl)).mono ?_;rintro e w8 ⟨⟨c,rfl⟩,hg⟩;have HG8:=aa hg;clear hg))
  go_wp2
  go_end0
  exact⟨rfl,HG8.out⟩
 ·have HFV:Hid (∀W,ay w W lab a P n q T (bU n M x)→W.cell? ⟨a.th,x*10+5,none⟩=some (.int .i64 t.sv)):=fun W h=>by
   have:=(h.tr hx).c5
   have e:(bU n M x).th x={t with sn:=M.nw,lf:=0}:=by unfold bU cB;split<;>simp only[Gt.aj]<;>rw[ht]
   rw[e] at this
   exact this
  have hstb:((dU M n t:Int) !=2)=true:=by simp;omega
  have e2:bU n M x={cB n M x with sv:=Cb.ki M.sv t.sv M.nw}:=by unfold bU;rw[ht,if_neg hst]
  have HWK:Hid (∀W (h:ay w W lab a P n q T (cB n M x)),Calls Tryz.prog 131 #[.pointer (some ⟨a.sb,0,none⟩),.int .i64 t.sv,.int .u64 (M.nw:Int)] W fun e w'=>(∃c:Int,e= .returned (.int .i64 c))∧ay w w' lab a P n q T (bU n M x)):=fun W h=>by
   rw[e2];exact h.FI t.sv M.nw hnw
  have HST:Hid (∀W (h:ay w W lab a P n q T (bU n M x)),Calls Tryz.prog 54 #[.pointer (some ⟨a.m,0,none⟩)] W fun e w'=>e= .returned (.tuple #[])∧ay w w' lab a P n q (T+n) (cf n M x)):=fun W h=>h.settle hT
  obtain⟨k,hk⟩: ∃k,Pi.di (cf n M x).gr.T (cf n M x).gr.L (x:Int)=k:=⟨_,rfl⟩
  have HK:Hid (∀W (h:ay w W lab a P n q (T+n) (cf n M x)),Calls Tryz.prog 85 #[.pointer (some ⟨a.gb,0,none⟩),.int .i64 (x:Int)] W fun e w'=>e= .returned (.agg #[.bool k.e,.int .u64 k.d,.int .u8 k.l])∧ay w w' lab a P n q (T+n) (cf n M x)):=fun W h=>by
   rw[←hk];exact h.key (x:Int)
  have HP:Hid (∀W (h:ay w W lab a P n q (T+n) (cf n M x)),Calls Tryz.prog 132 #[.pointer (some ⟨a.pb,0,none⟩),.int .i64 proc,.int .i64 (x:Int),.agg #[.bool k.e,.int .u64 k.d,.int .u8 k.l]] W fun e w'=>(∃c:Int,e= .returned (.int .i64 c))∧ay w w' lab a P n q (T+n+1) (Go.Proofs.YtdbailcdlngemaaGreatDoor.ready P n q M x proc)):=fun W h=>by
   unfold Go.Proofs.YtdbailcdlngemaaGreatDoor.ready
   have hok:=h.jj (x:Int)
   rw[hk] at hok⊢
   exact h.put hT proc (x:Int) k hok
  have HFT:Hid (∀W,ay w W lab a P n q T {M with S:=dR n M.G M.S t.p t.g 1}→bo W a.th (x*10) t∧ ∀o,W.frozen? ⟨a.th,o,none⟩=false):=fun W h=>⟨by rw[←ht];exact h.tr hx,h.GZ⟩
  have HFR:Hid (∀W,ay w W lab a P n q T (cB n M x)→W.cell? ⟨a.th,x*10+5,none⟩=some (.int .i64 t.sv)):=fun W h=>by
   have:=(h.tr hx).c5
   unfold cB at this
   simp only[Gt.aj] at this
   rw[ht] at this
   exact this
  have HNW:Hid (∀W,ay w W lab a P n q T {M with S:=dR n M.G M.S t.p t.g 1}→Calls Tryz.prog 88 #[.pointer (some ⟨a.m,0,none⟩)] W fun e w'=>e= .returned (.int .u64 (M.nw:Int))∧w'=W):=fun W h=>h.now
  have HNV:Hid (∀W,ay w W lab a P n q T (cB n M x)→Calls Tryz.prog 88 #[.pointer (some ⟨a.m,0,none⟩)] W fun e w'=>e= .returned (.int .u64 (M.nw:Int))∧ay w w' lab a P n q T (cB n M x)):=fun W h=>h.GK
  clear ht hst hnw hk
  clear e2
  go_enter Tryz.func91,Tryz.ntmps91
  go_wp2_with (first
   |(go_at_call 83;refine(HS.out _ H0.out).mono ?_;rintro e w1 ⟨rfl,hg⟩;have HG1:=aa hg;clear hg))
  have c5:=HG1.out.core.c5
  have HT1:=aa (fun W (h:ay w W lab a P n q T M)=>h.tr hx)
  clear d0 d1 d2 d3 d4 d5 d6 d7 d8 d9
  obtain⟨d0,d1⟩:w1.cell? ⟨a.th,x*10,none⟩=some (.int .i64 t.p)∧w1.cell? ⟨a.th,x*10+1,none⟩=some (.int .u32 (t.g:Int)):=HTT.out _ HG1.out
  go_region_held3 (fun w'=>w'.cell? ⟨a.m,5,none⟩=some (.pointer (some ⟨a.tb,0,none⟩))∧w'.cell? ⟨a.th,x*10,none⟩=some (.int .i64 t.p)∧w'.cell? ⟨a.th,x*10+1,none⟩=some (.int .u32 (t.g:Int)))
   (first|exact⟨HG2.out.core.c5,e0,e1⟩|go_keep)
   (first
    |(go_at_call 106;refine(HM.out _ (by exact gp HG1.out rfl rfl rfl rfl)).mono ?_;rintro e w2 ⟨⟨c,rfl⟩,hg⟩;have HG2:=aa hg;clear hg;obtain⟨⟨e0,e1,e2,e3,e4,e5,e6,e7,e8,e9⟩,fz⟩:=HFT.out _ HG2.out))
  go_upto_region 4 with (first
   |(go_at_call 88;refine(HNW.out _ HG2.out).mono ?_;rintro e w3 ⟨rfl,hw⟩;replace hw:=hw.symm;subst hw))
  have HG3:=aa (HR1.out _ HG2.out)
  clear e0 e1 e2 e3 e4 e5 e6 e7 e8 e9 fz
  generalize (w2.setCell ⟨a.th,x*10+9,none⟩ (.int .u64 (M.nw:Int))).setCell ⟨a.th,x*10+4,none⟩ (.int .u8 0)=w3 at*
  clear c4 c5 d0 d1
  go_upto_region 5 with fail
  have c6:=HG3.out.core.c6
  have k5:=HFR.out _ HG3.out
  go_region_held3 (fun w'=>w'.cell? ⟨a.m,6,none⟩=some (.pointer (some ⟨a.sb,0,none⟩))∧w'.cell? ⟨a.th,x*10+5,none⟩=some (.int .i64 t.sv))
   (first|exact⟨HG5.out.core.c6,HFV.out _ HG5.out⟩|exact⟨HG4.out.core.c6,HFR.out _ HG4.out⟩|go_keep)
   (first
    |(go_at_call 88;refine(HNV.out _ (by exact gp HG3.out rfl rfl rfl rfl)).mono ?_;rintro e w4 ⟨rfl,hg⟩;have HG4:=aa hg;clear hg)
    |(go_at_call 131;refine(HWK.out _ (by exact gp HG4.out rfl rfl rfl rfl)).mono ?_;rintro e w5 ⟨⟨c,rfl⟩,hg⟩;have HG5:=aa hg;clear hg))
  clear c6 k5
  go_upto_region 7 with (first
   |(go_at_call 54;refine(HST.out _ (by exact gp HG5.out rfl rfl rfl rfl)).mono ?_;rintro e w6 ⟨rfl,hg⟩;have HG6:=aa hg;clear hg))
  have c8:=HG6.out.core.c8
  have c7:=HG6.out.core.c7
  go_region_held3 (fun w'=>w'.cell? ⟨a.m,8,none⟩=some (.pointer (some ⟨a.pb,0,none⟩))∧w'.cell? ⟨a.m,7,none⟩=some (.pointer (some ⟨a.gb,0,none⟩)))
   (first|exact⟨HG8.out.core.c8,HG8.out.core.c7⟩|exact⟨HG7.out.core.c8,HG7.out.core.c7⟩|go_keep)
   (first
    |(go_at_call 85;refine(HK.out _ (by exact gp HG6.out rfl rfl rfl rfl)).mono ?_;rintro e w7 ⟨rfl,hg⟩;have HG7:=aa hg;clear hg)
    |(go_at_call 132;refine(HP.out _ (by exact gp HG7.out rfl rfl rfl rfl)).mono ?_;rintro e w8 ⟨⟨c,rfl⟩,hg⟩;have HG8:=aa hg;clear hg))
  go_wp2
  go_end0
  exact⟨rfl,HG8.out⟩
end
structure At (w W:World) (lab labk:Nat→Nat) (a:Ad) (P n q T:Nat) (M:Mc):Prop where
 i:aD W labk a P n q T M
 l:oO w W lab labk
 f:Fr (fun k=>lab k≠0) w W
 z:0<w.heap.size
section
variable {w W W':World} {lab labk:Nat→Nat} {a:Ad} {P n q T T':Nat} {M M':Mc}
theorem At.goes (h:At w W lab labk a P n q T M):ay w W lab a P n q T M:=⟨labk,h.i,h.l,h.f⟩
theorem aD.Ik (h:aD w lab a P n q T M):At w w lab lab a P n q T M:=⟨h,⟨fun _ _=>rfl,h.lt⟩,Fr.refl _ _,h.t0.pos⟩
theorem ay.open (h:ay w W lab a P n q T M) (hz:0<w.heap.size): ∃labk,At w W lab labk a P n q T M:=h.elim fun l q=>⟨l,q.1,q.2.1,q.2.2,hz⟩
theorem At.step (h:At w W lab labk a P n q T M) (g:ay W W' labk a P n q T' M'): ∃lab',At w W' lab lab' a P n q T' M'∧(∀b,b<W.heap.size→lab' b=labk b)∧Fr (fun k=>labk k≠0) W W':=by
 obtain⟨l2,i2,b2,f2⟩:=g
 exact⟨l2,⟨i2,h.l.then b2 h.f.size,h.f.then f2 (fun k hk hn=>by rw[←h.l.old k hk];exact hn),h.z⟩,b2.old,f2⟩
theorem At.below (h:At w W lab labk a P n q T M) (hb:Below W.heap.size W W'):At w W' lab labk a P n q T M:=
 ⟨h.i.below hb,⟨h.l.old,fun k hk=>Nat.lt_of_lt_of_le (h.l.lt k hk) hb.size⟩,h.f.then (dh (S:=fun _=>False) hb) (fun _ _ q=>q.elim),h.z⟩
theorem At.new (h:At w W lab labk a P n q T M) (o:Obj):At w (W.alloc o) lab labk a P n q T M:=h.below ((Below.refl _ _).alloc (Nat.le_refl _) _)
theorem At.fresh (h:At w W lab labk a P n q T M) {k:Nat} (hk:W.heap.size≤k):labk k=0:=h.i.fresh hk
theorem At.pn (h:At w W lab labk a P n q T M) (e1:W'.heap=W.heap) (e2:W'.os=W.os) (e3:W'.tape=W.tape) (e4:W'.output=W.output):At w W' lab labk a P n q T M:=
 h.below (aQ (Below.refl _ _) e1 e2 e3 e4)
theorem At.drew (h:At w W lab labk a P n q T M):At w W.drew lab labk a P n q T M:=h.pn rfl rfl rfl rfl
theorem yt (w:World) (k:Nat):w.drew.heap[k]? =w.heap[k]? :=rfl
theorem At.set (h:At w W lab labk a P n q T M) {b:Nat} (hb:w.heap.size≤b) (hl:labk b=0) (o:Nat) (u:Value):At w (W.setCell ⟨b,o,none⟩ u) lab labk a P n q T M:=by
 have hpos:=h.z
 have hf:Fr (fun k=>k=b) W (W.setCell ⟨b,o,none⟩ u):=(Fr.refl (fun k=>k=b) W).setCell (a:=⟨b,o,none⟩) rfl _
 refine⟨h.i.frame hf (fun k hk e=>hk (by rw[e];exact hl)) (by omega),⟨h.l.old,fun k hk=>by simpa using h.l.lt k hk⟩,h.f.then hf (fun k hk e=>by omega),h.z⟩
theorem Fr.box {w W:World} {lab:Nat→Nat} (hf:Fr (fun k=>lab k≠0) w W) {b:Nat} (hl:lab b=0) (hb:b<w.heap.size):W.heap[b]? =w.heap[b]? :=hf.block b hb (fun q=>q hl)
def db (M:Mc) (n:Nat):Option Nat:=((Gt.pl M.S true n n).head?).map (·.val)
def dy (M:Mc) (x:Nat):Mc:={M with G:=Gt.ax M.G x (M.G x+1),S:=Gt.ax M.S x 1}
def G4 (M:Mc) (n:Nat):Prop:= ∀x,x<n→M.G x+1<4294967296
theorem oJ {x:Nat} (h:db M n=some x):x<n:=by
 unfold db at h
 obtain⟨y,_,rfl⟩:=Option.map_eq_some_iff.1 h
 exact y.isLt
theorem aD.alloc (h:aD w lab a P n q T M) (hG:G4 M n):
  Calls Tryz.prog 95 #[.pointer (some ⟨a.tb,0,none⟩)] w fun e w'=>
   (∃x,db M n=some x∧e= .returned (.tuple #[.agg #[.int .i64 (x:Int),.int .u32 ((M.G x+1:Nat):Int)],.int .i64 0])∧ay w w' lab a P n q T (dy M x))∨
   (db M n=none∧e= .returned (.tuple #[.agg #[.int .i64 0,.int .u32 0],.int .i64 4])∧Below w.heap.size w w'):=by
 refine(callsIn_wide.1 (Gt.xX a.tb a.tg n M.G M.S w h.tb hG)).mono ?_
 rintro e w' (⟨x,hx,rfl,hr,hf⟩|⟨hx,rfl,hb⟩)
 ·refine .inl ⟨x.val,?_,rfl,?_⟩
  ·obtain⟨l,hl⟩:=hx
   unfold db
   rw[←hl]
   rfl
  ·have h5:Fr (fun k=>lab k=5) w w':=(FY hf).to (fun k _ hk=>by rw[hk];exact h.ltb.2)
   exact⟨lab,h.DQ (h.same h5) h5 hr,h.same h5,h5.to (fun k _ hk=>by rw[hk];decide)⟩
 ·refine .inr ⟨?_,rfl,hb⟩
  unfold db
  rw[hx]
  rfl
theorem aD.Gd (h:aD w lab a P n q T M) {x:Nat} (hx:x<n) (t:Tr) (hok:t.ok) (ht:bo W a.th (x*10) t) (hf:Fr (fun k=>k=a.th) w W) (hfar: ∀j,j<n→j≠x→bo W a.th (j*10) (M.th j)) (hfz: ∀o,W.frozen? ⟨a.th,o,none⟩=false):aD W lab a P n q T {M with th:=Gt.ax M.th x t}:=by
 have h4:Fr (fun k=>lab k=4) w W:=hf.to (fun k _ hk=>by rw[hk];exact h.lth)
 exact h.Ew (h.same h4) h4 (h.th.put ht hok hfar hfz)
def kq (w:World) (b o:Nat) (t:Tr):World:=((((((((((w.setCell ⟨b,o,none⟩ (.int .i64 t.p)).setCell ⟨b,o+1,none⟩ (.int .u32 (t.g:Int))).setCell ⟨b,o+2,none⟩ (.int .i64 t.pg)).setCell ⟨b,o+3,none⟩ (.int .u8 (t.lv:Int))).setCell ⟨b,o+4,none⟩ (.int .u8 (t.lf:Int))).setCell ⟨b,o+5,none⟩ (.int .i64 t.sv)).setCell ⟨b,o+6,none⟩ (.int .i64 t.pc)).setCell ⟨b,o+7,none⟩ (.int .i64 t.ia)).setCell ⟨b,o+8,none⟩ (.int .i64 t.il)).setCell ⟨b,o+9,none⟩ (.int .u64 (t.sn:Int)))
theorem Ff {b o:Nat} {t0:Tr} (h:bo w b o t0) (t:Tr):bo (kq w b o t) b o t:=((((((((((h.Dz t.p).DV t.g).EM t.pg).Fv t.lv).tv t.lf).D6 t.sv).Aa t.pc).ET t.ia).Fk t.il).Ak t.sn)
theorem zu (w:World) (b o:Nat) (t:Tr):Fr (fun k=>k=b) w (kq w b o t):=by
 unfold kq
 exact((((((((((Fr.refl (fun k=>k=b) w).setCell (a:=⟨b,o,none⟩) rfl _).setCell (a:=⟨b,o+1,none⟩) rfl _).setCell (a:=⟨b,o+2,none⟩) rfl _).setCell (a:=⟨b,o+3,none⟩) rfl _).setCell (a:=⟨b,o+4,none⟩) rfl _).setCell (a:=⟨b,o+5,none⟩) rfl _).setCell (a:=⟨b,o+6,none⟩) rfl _).setCell (a:=⟨b,o+7,none⟩) rfl _).setCell (a:=⟨b,o+8,none⟩) rfl _).setCell (a:=⟨b,o+9,none⟩) rfl _
theorem B9 (w:World) (b o:Nat) (t:Tr) (k:Nat) (hk:k≠b):(kq w b o t).heap[k]? =w.heap[k]? :=by
 unfold kq
 exact(Below.heap_setCell _ _ _ _ hk).trans ((Below.heap_setCell _ _ _ _ hk).trans ((Below.heap_setCell _ _ _ _ hk).trans ((Below.heap_setCell _ _ _ _ hk).trans ((Below.heap_setCell _ _ _ _ hk).trans ((Below.heap_setCell _ _ _ _ hk).trans ((Below.heap_setCell _ _ _ _ hk).trans ((Below.heap_setCell _ _ _ _ hk).trans ((Below.heap_setCell _ _ _ _ hk).trans ((Below.heap_setCell _ _ _ _ hk))))))))))
theorem BZ {b o o':Nat} {t t':Tr} (h:bo w b o t) (ho:o'+10≤o∨o+10≤o'):bo (kq w b o' t') b o t:=by
 unfold kq
 exact((((((((((h.ka (by omega) _).ka (by omega) _).ka (by omega) _).ka (by omega) _).ka (by omega) _).ka (by omega) _).ka (by omega) _).ka (by omega) _).ka (by omega) _).ka (by omega) _)
theorem E3 {b o:Nat} {t:Tr} (h: ∀o,w.frozen? ⟨b,o,none⟩=false): ∀o',(kq w b o t).frozen? ⟨b,o',none⟩=false:=fun o'=>by
 unfold kq
 simp only[aM]
 exact h o'
theorem aD.He (h:aD w lab a P n q T M) {x:Nat} (hx:x<n) (t:Tr) (hok:t.ok):aD (kq w a.th (x*10) t) lab a P n q T {M with th:=Gt.ax M.th x t}:=
 h.Gd hx t hok (Ff (h.th.at_ x hx) t) (zu _ _ _ _) (fun j hj hne=>BZ (h.th.at_ j hj) (by omega)) (E3 h.th.fz)
theorem At.He (h:At w W lab labk a P n q T M) {x:Nat} (hx:x<n) (t:Tr) (hok:t.ok):At w (Go.Proofs.YtdbailcdlngemaaGreatDoor.kq W a.th (x*10) t) lab labk a P n q T {M with th:=Gt.ax M.th x t}:=by
 have hf:=zu W a.th (x*10) t
 refine⟨h.i.He hx t hok,⟨h.l.old,fun k hk=>Nat.lt_of_lt_of_le (h.l.lt k hk) hf.size⟩,h.f.then hf (fun k hk e=> ?_),h.z⟩
 rw[←h.l.old k hk,e,h.i.lth];decide
end
structure Ev where
 k:Int
 p:Int
 x:Int
 g:Nat
 r:Int
 e:Int
structure kA (w:World) (b:Nat) (v:Ev):Prop where
 c0:w.cell? ⟨b,0,none⟩=some (.int .i64 v.k)
 c1:w.cell? ⟨b,1,none⟩=some (.int .i64 v.p)
 c2:w.cell? ⟨b,2,none⟩=some (.int .i64 v.x)
 c3:w.cell? ⟨b,3,none⟩=some (.int .u32 (v.g:Int))
 c4:w.cell? ⟨b,4,none⟩=some (.int .i64 v.r)
 c5:w.cell? ⟨b,5,none⟩=some (.int .i64 v.e)
 fz: ∀o,w.frozen? ⟨b,o,none⟩=false
theorem kA.kept {w w':World} {b:Nat} {v:Ev} (h:kA w b v) (hb:w'.heap[b]? =w.heap[b]?):kA w' b v:=
 have e: ∀o,w'.cell? ⟨b,o,none⟩=w.cell? ⟨b,o,none⟩:=fun _=>World.cell?_of_block hb
 ⟨(e _).trans h.c0,(e _).trans h.c1,(e _).trans h.c2,(e _).trans h.c3,(e _).trans h.c4,(e _).trans h.c5,fun o=>(World.frozen?_of_block hb).trans (h.fz o)⟩
theorem kA.lt {w:World} {b:Nat} {v:Ev} (h:kA w b v):b<w.heap.size:=World.block_lt_of_cell? w _ h.c0
theorem kA.new (w:World):kA (w.alloc (.cells #[.int .i64 0,.int .i64 0,.int .i64 0,.int .u32 0,.int .i64 0,.int .i64 0] 62)) w.heap.size ⟨0,0,0,0,0,0⟩:=
 ⟨aV _ _ _ 0 _ rfl,aV _ _ _ 1 _ rfl,aV _ _ _ 2 _ rfl,aV _ _ _ 3 _ rfl,aV _ _ _ 4 _ rfl,aV _ _ _ 5 _ rfl,fun o=>Gt.aG _ _ _ _⟩
structure kP (w:World) (b:Nat) (t:Tr):Prop where
 c:bo w b 0 t
 fz: ∀o,w.frozen? ⟨b,o,none⟩=false
theorem kP.kept {w w':World} {b:Nat} {t:Tr} (h:kP w b t) (hb:w'.heap[b]? =w.heap[b]?):kP w' b t:=⟨h.c.kept hb,fun o=>(World.frozen?_of_block hb).trans (h.fz o)⟩
theorem kP.lt {w:World} {b:Nat} {t:Tr} (h:kP w b t):b<w.heap.size:=World.block_lt_of_cell? w _ h.c.c0
theorem kP.new (w:World) (t:Tr):kP (w.alloc (.cells #[.int .i64 t.p,.int .u32 (t.g:Int),.int .i64 t.pg,.int .u8 (t.lv:Int),.int .u8 (t.lf:Int),.int .i64 t.sv,.int .i64 t.pc,.int .i64 t.ia,.int .i64 t.il,.int .u64 (t.sn:Int)] 172)) w.heap.size t:=⟨bo.new w t,fun o=>Gt.aG _ _ _ _⟩
noncomputable def fH (P n q:Nat) (M:Mc) (x:Nat) (proc:Int) (t:Tr):Mc:=ready P n q {dy M x with th:=Gt.ax M.th x {t with p:=(x:Int),g:=M.G x+1}} x proc
section
variable {w W W':World} {lab labk:Nat→Nat} {a:Ad} {P n q T T':Nat} {M M':Mc}
theorem aD.wY (h:aD w lab a P n q T M) (hT:T+n≤1000000000) (hG:G4 M n) (proc:Int) (t:Tr) (tok:t.ok) (x:Nat) (hf:db M n=some x):
  Calls Tryz.prog 61 #[.pointer (some ⟨a.m,0,none⟩),.int .i64 proc,.agg #[.int .i64 t.p,.int .u32 (t.g:Int),.int .i64 t.pg,.int .u8 (t.lv:Int),.int .u8 (t.lf:Int),.int .i64 t.sv,.int .i64 t.pc,.int .i64 t.ia,.int .i64 t.il,.int .u64 (t.sn:Int)]] w fun e w'=>e= .returned (.tuple #[.agg #[.int .i64 9,.int .i64 proc,.int .i64 (x:Int),.int .u32 ((M.G x+1:Nat):Int),.int .i64 t.pg,.int .i64 0],.int .i64 0])∧ay w w' lab a P n q (T+n+1) (fH P n q M x proc t):=by
 have hx:=oJ hf
 have hx':(x:Int)<(n:Int):=by omega
 have hgx:=hG x hx
 obtain⟨g,hg⟩: ∃g,M.G x+1=g:=⟨_,rfl⟩
 have hbw1:Below w.heap.size w (w.alloc (.cells #[.int .i64 t.p,.int .u32 (t.g:Int),.int .i64 t.pg,.int .u8 (t.lv:Int),.int .u8 (t.lf:Int),.int .i64 t.sv,.int .i64 t.pc,.int .i64 t.ia,.int .i64 t.il,.int .u64 (t.sn:Int)] 172)):=(Below.refl _ _).alloc (Nat.le_refl _) _
 have hbw:Below w.heap.size w ((w.alloc (.cells #[.int .i64 t.p,.int .u32 (t.g:Int),.int .i64 t.pg,.int .u8 (t.lv:Int),.int .u8 (t.lf:Int),.int .i64 t.sv,.int .i64 t.pc,.int .i64 t.ia,.int .i64 t.il,.int .u64 (t.sn:Int)] 172)).alloc (.cells #[.int .i64 0,.int .i64 0,.int .i64 0,.int .u32 0,.int .i64 0,.int .i64 0] 62)):=hbw1.alloc (by simp) _
 have A0:=h.Ik.below hbw
 have kb:kP ((w.alloc (.cells #[.int .i64 t.p,.int .u32 (t.g:Int),.int .i64 t.pg,.int .u8 (t.lv:Int),.int .u8 (t.lf:Int),.int .i64 t.sv,.int .i64 t.pc,.int .i64 t.ia,.int .i64 t.il,.int .u64 (t.sn:Int)] 172)).alloc (.cells #[.int .i64 0,.int .i64 0,.int .i64 0,.int .u32 0,.int .i64 0,.int .i64 0] 62)) w.heap.size t:=(kP.new w t).kept (((Below.refl _ _).alloc (Nat.le_refl _) _).block _ (kP.new w t).lt)
 have ke:=kA.new (w.alloc (.cells #[.int .i64 t.p,.int .u32 (t.g:Int),.int .i64 t.pg,.int .u8 (t.lv:Int),.int .u8 (t.lf:Int),.int .i64 t.sv,.int .i64 t.pc,.int .i64 t.ia,.int .i64 t.il,.int .u64 (t.sn:Int)] 172))
 rw[show(w.alloc (.cells #[.int .i64 t.p,.int .u32 (t.g:Int),.int .i64 t.pg,.int .u8 (t.lv:Int),.int .u8 (t.lf:Int),.int .i64 t.sv,.int .i64 t.pc,.int .i64 t.ia,.int .i64 t.il,.int .u64 (t.sn:Int)] 172)).heap.size=w.heap.size+1 by simp] at ke
 have hl0:lab w.heap.size=0:=h.fresh (Nat.le_refl _)
 have hl1:lab (w.heap.size+1)=0:=h.fresh (by omega)
 clear h hbw hbw1
 generalize hW:(w.alloc (.cells #[.int .i64 t.p,.int .u32 (t.g:Int),.int .i64 t.pg,.int .u8 (t.lv:Int),.int .u8 (t.lf:Int),.int .i64 t.sv,.int .i64 t.pc,.int .i64 t.ia,.int .i64 t.il,.int .u64 (t.sn:Int)] 172)).alloc (.cells #[.int .i64 0,.int .i64 0,.int .i64 0,.int .u32 0,.int .i64 0,.int .i64 0] 62)=W0 at*
 have HW:=aa hW
 clear hW
 have c5:=A0.i.co.c5
 have HAL:Hid (Calls Tryz.prog 95 #[.pointer (some ⟨a.tb,0,none⟩)] W0 fun e w'=>e= .returned (.tuple #[.agg #[.int .i64 (x:Int),.int .u32 (g:Int)],.int .i64 0])∧ ∃lab1,At w w' lab lab1 a P n q T (dy M x)∧lab1 w.heap.size=0∧lab1 (w.heap.size+1)=0∧kP w' w.heap.size t∧kA w' (w.heap.size+1) ⟨0,0,0,0,0,0⟩):=by
  refine(A0.i.alloc hG).mono ?_
  rintro e w' (⟨y,hy,rfl,hgo⟩|⟨hy,_⟩)
  ·rw[hf] at hy
   injection hy with hy
   subst hy
   rw[hg]
   obtain⟨lab1,A1,ho,hfr⟩:=A0.step hgo
   exact⟨rfl,lab1,A1,(ho _ kb.lt).trans hl0,(ho _ ke.lt).trans hl1,kb.kept (hfr.box hl0 kb.lt),ke.kept (hfr.box hl1 ke.lt)⟩
  ·rw[hf] at hy;cases hy
 go_enter Tryz.func61,Tryz.ntmps61
 go_upto_region 1 with fail
 rw[HW.out]
 go_upto_region 4 with (first
  |(go_at_call 95;refine(HAL.out).mono ?_;rintro e w1 ⟨rfl,lab1,A1,hm0,hm1,kb1,ke1⟩;have HA1:=aa A1;have HM0:=aa hm0;have HM1:=aa hm1;have HKB:=aa kb1;have HKE:=aa ke1;clear A1 hm0 hm1 kb1 ke1))
 have hlt0:w.heap.size+1<w1.heap.size:=HKE.out.lt
 have hb1:Below w1.heap.size w1 (w1.alloc (.cells #[.int .i64 (x:Int),.int .u32 (g:Int)] 60)):=(Below.refl _ _).alloc (Nat.le_refl _) _
 have A1:=HA1.out.below hb1
 have hm2:lab1 w1.heap.size=0:=HA1.out.fresh (Nat.le_refl _)
 have i0:=aV w1 #[.int .i64 (x:Int),.int .u32 (g:Int)] 60 0 _ rfl
 have i1:=aV w1 #[.int .i64 (x:Int),.int .u32 (g:Int)] 60 1 _ rfl
 have kb1:=HKB.out.kept (hb1.block _ HKB.out.lt)
 have ke1:=HKE.out.kept (hb1.block _ HKE.out.lt)
 clear HA1 HKB HKE HAL hb1 kb ke A0 c5
 generalize w1.alloc (.cells #[.int .i64 (x:Int),.int .u32 (g:Int)] 60)=W1 at*
 generalize w1.heap.size=ib at*
 have hne0: ¬w.heap.size=ib:=by omega
 have hne1: ¬ib=w.heap.size:=by omega
 have A2:=(A1.set (Nat.le_refl w.heap.size) HM0.out 0 (.int .i64 (x:Int))).set (Nat.le_refl w.heap.size) HM0.out 1 (.int .u32 (g:Int))
 have kb2:kP ((W1.setCell ⟨w.heap.size,0,none⟩ (.int .i64 (x:Int))).setCell ⟨w.heap.size,1,none⟩ (.int .u32 (g:Int))) w.heap.size {t with p:=(x:Int),g:=g}:=⟨(kb1.c.Dz (x:Int)).DV g,fun o=>by rw[aM,aM];exact kb1.fz o⟩
 have hbl: ∀b,b≠w.heap.size→((W1.setCell ⟨w.heap.size,0,none⟩ (.int .i64 (x:Int))).setCell ⟨w.heap.size,1,none⟩ (.int .u32 (g:Int))).heap[b]? =W1.heap[b]? :=fun b hb=>(Below.heap_setCell _ _ _ _ hb).trans (Below.heap_setCell _ _ _ _ hb)
 have ke2:=ke1.kept (hbl (w.heap.size+1) (by omega))
 have j0:=(World.cell?_of_block (hbl ib hne1)).trans i0
 have j1:=(World.cell?_of_block (hbl ib hne1)).trans i1
 have q0:=kb1.c.c0
 have q1:=kb1.c.c1
 have qf:=kb1.fz
 clear hbl ke1 kb1 A1
 go_upto_region 5 with fail
 clear i0 i1 q0 q1 qf
 generalize (W1.setCell ⟨w.heap.size,0,none⟩ (.int .i64 (x:Int))).setCell ⟨w.heap.size,1,none⟩ (.int .u32 (g:Int))=W2 at*
 obtain⟨t',ht'⟩: ∃t':Tr,({t with p:=(x:Int),g:=g}:Tr)=t':=⟨_,rfl⟩
 have tok':t'.ok:=by rw[←ht'];exact⟨by show g<_;omega,tok.lv,tok.lf,tok.il,tok.sn⟩
 obtain⟨W3,hW3⟩: ∃W3,(kq W2 a.th (x*10) t').drew=W3:=⟨_,rfl⟩
 have A3:At w W3 lab lab1 a P n q T {dy M x with th:=Gt.ax (dy M x).th x t'}:=by rw[←hW3];exact(A2.He hx t' tok').drew
 rw[ht'] at kb2
 have hnat: ∀b,lab1 b=0→b≠a.th:=fun b hb e=>by rw[e,A2.i.lth] at hb;cases hb
 have hbl: ∀b,lab1 b=0→W3.heap[b]? =W2.heap[b]? :=fun b hb=>by rw[←hW3,yt];exact B9 W2 a.th (x*10) t' b (hnat b hb)
 have kb3:=kb2.kept (hbl _ HM0.out)
 have ke3:=ke2.kept (hbl _ HM1.out)
 have l0:=(World.cell?_of_block (hbl ib hm2)).trans j0
 have l1:=(World.cell?_of_block (hbl ib hm2)).trans j1
 unfold kq at hW3
 have HW3:=aa hW3
 clear hW3
 obtain⟨d0,d1,d2,d3,d4,d5,d6,d7,d8,d9⟩:=A2.i.th.at_ x hx
 have fz:=A2.i.th.fz
 have c4:=A2.i.co.c4
 have hbm: ¬a.th=w.heap.size:=fun e=>hnat _ HM0.out e.symm
 have hbm': ¬w.heap.size=a.th:=hnat _ HM0.out
 have HA3:=aa A3
 have HB3:=aa kb3
 have HE3:=aa ke3
 have HL0:=aa l0
 have HL1:=aa l1
 have HT':=aa ht'
 clear A2 A3 kb3 ke3 l0 l1 hbl ke2 hnat
 obtain⟨⟨s0,s1,s2,s3,s4,s5,s6,s7,s8,s9⟩,sf⟩:=kb2
 clear ht' tok' tok
 have hba: ¬a.m=a.th:=fun e=>by have h1:=HA3.out.i.lm;have h2:=HA3.out.i.lth;rw[e,h2] at h1;cases h1
 have hba': ¬a.th=a.m:=fun e=>hba e.symm
 have hbi: ¬ib=a.th:=fun e=>by have h2:=HA3.out.i.lth;rw[←e,hm2] at h2;cases h2
 have hbi': ¬a.th=ib:=fun e=>hbi e.symm
 have HM2:=aa hm2
 clear hm2 hG hgx hlt0 hl0 hl1 HW hf
 go_region_held3 (fun w'=>w'.cell? ⟨a.m,4,none⟩=some (.slice (some ⟨a.th,0,none⟩) n a.xt)∧w'.cell? ⟨ib,0,none⟩=some (.int .i64 (x:Int))∧w'.cell? ⟨w.heap.size,0,none⟩=some (.int .i64 t'.p)∧w'.cell? ⟨w.heap.size,1,none⟩=some (.int .u32 (t'.g:Int))∧w'.cell? ⟨w.heap.size,2,none⟩=some (.int .i64 t'.pg)∧w'.cell? ⟨w.heap.size,3,none⟩=some (.int .u8 (t'.lv:Int))∧w'.cell? ⟨w.heap.size,4,none⟩=some (.int .u8 (t'.lf:Int))∧w'.cell? ⟨w.heap.size,5,none⟩=some (.int .i64 t'.sv)∧w'.cell? ⟨w.heap.size,6,none⟩=some (.int .i64 t'.pc)∧w'.cell? ⟨w.heap.size,7,none⟩=some (.int .i64 t'.ia)∧w'.cell? ⟨w.heap.size,8,none⟩=some (.int .i64 t'.il)∧w'.cell? ⟨w.heap.size,9,none⟩=some (.int .u64 (t'.sn:Int)))
  (go_keep)
  (first|fail)
 rw[HW3.out]
 clear HW3 d0 d1 d2 d3 d4 d5 d6 d7 d8 d9 s0 s1 s2 s3 s4 s5 s6 s7 s8 s9 sf fz c4 j0 j1 hba hba' hbi hbi' hbm hbm' hne0 hne1
 have hgM:ready P n q {dy M x with th:=Gt.ax (dy M x).th x t'} x proc=fH P n q M x proc t:=by
  unfold fH
  rw[←HT'.out,←hg]
  rfl
 have HRD:Hid (Calls Tryz.prog 91 #[.pointer (some ⟨a.m,0,none⟩),.int .i64 (x:Int),.int .i64 proc] W3 fun e w'=>e= .returned (.tuple #[])∧ ∃lab2,At w w' lab lab2 a P n q (T+n+1) (fH P n q M x proc t)∧lab2 (w.heap.size+1)=0∧(w'.cell? ⟨ib,0,none⟩=some (.int .i64 (x:Int))∧w'.cell? ⟨ib,1,none⟩=some (.int .u32 (g:Int)))∧kP w' w.heap.size t'∧kA w' (w.heap.size+1) ⟨0,0,0,0,0,0⟩):=by
  refine(HA3.out.i.goes.ready hT x hx proc).mono ?_
  rintro e w' ⟨rfl,hgo⟩
  rw[hgM] at hgo
  obtain⟨lab2,A4,ho,hfr⟩:=HA3.out.step hgo
  exact⟨rfl,lab2,A4,(ho _ HE3.out.lt).trans HM1.out,⟨hfr.keep HM2.out HL0.out,hfr.keep HM2.out HL1.out⟩,HB3.out.kept (hfr.box HM0.out HB3.out.lt),HE3.out.kept (hfr.box HM1.out HE3.out.lt)⟩
 have l0:=HL0.out
 have HPG:Hid (t'.pg=t.pg):=by rw[←HT'.out];exact rfl
 clear hgM
 go_wp2_with (first
  |(go_at_call 91;refine(HRD.out).mono ?_;rintro e w4 ⟨rfl,lab2,A4,hm1,⟨m0,m1⟩,⟨⟨_,_,b2,_,_,_,_,_,_,_⟩,_⟩,⟨e0,e1,e2,e3,e4,e5,ef⟩⟩;have HA4:=aa A4;have HM4:=aa hm1;clear A4 hm1))
 have A5:=(((((HA4.out.set (b:=w.heap.size+1) (by omega) HM4.out 0 (.int .i64 9)).set (b:=w.heap.size+1) (by omega) HM4.out 1 (.int .i64 proc)).set (b:=w.heap.size+1) (by omega) HM4.out 2 (.int .i64 (x:Int))).set (b:=w.heap.size+1) (by omega) HM4.out 3 (.int .u32 (g:Int))).set (b:=w.heap.size+1) (by omega) HM4.out 4 (.int .i64 t'.pg)).set (b:=w.heap.size+1) (by omega) HM4.out 5 (.int .i64 0)
 rw[HPG.out] at A5⊢
 have HA5:=aa A5.goes
 clear A5 HA4 HA3
 rw[hg]
 simp[bodyPost,results,Tryz.results61,go_sem,e0,e1,e2,e3,e4,e5]
 exact HA5.out
end
def fC (v:Ev):List Value:=[.int .i64 v.k,.int .i64 v.p,.int .i64 v.x,.int .u32 (v.g:Int),.int .i64 v.r,.int .i64 v.e]
def bW (l:List Ev):List Value:=l.flatMap fC
def gL (w:World) (base:Nat) (v:Value) (l:List Ev):Prop:=w.ownsRow base 62 6 v l.length (bW l)
theorem gL.nil (w:World) (base:Nat):gL w base (.slice none 0 0) []:=⟨rfl,.inl ⟨rfl,rfl⟩⟩
theorem gL.one (w:World) (base:Nat) (hb:base≤w.heap.size) (v:Ev):gL (w.alloc (.cells #[.int .i64 v.k,.int .i64 v.p,.int .i64 v.x,.int .u32 (v.g:Int),.int .i64 v.r,.int .i64 v.e] 62)) base (.slice (some ⟨w.heap.size,0,none⟩) 1 1) [v]:=by
 refine⟨rfl,.inr ⟨w.heap.size,1,_,rfl,hb,(MapKept.heap_alloc w _).1,Nat.le_refl _,by decide,rfl,rfl⟩⟩
theorem gL.below {w w':World} {base:Nat} {v:Value} {l:List Ev} (h:gL w base v l) (hb:Below w.heap.size w w'):gL w' base v l:=by
 refine aN h (fun k hk=>hb.block k ?_)
 obtain⟨h1,⟨hv,_⟩|⟨g,cap,cells,hv,h3,h4,h5⟩⟩:=h
 ·rw[hv] at hk;cases hk
 ·rw[hv] at hk
  injection hk with hk
  rw[←hk]
  exact(Array.getElem?_eq_some_iff.1 h4).1
section
variable {w W W':World} {lab labk:Nat→Nat} {a:Ad} {P n q T T':Nat} {M M':Mc}
theorem qt.form {w:World} {v:Value} {l:List Pm} {vs:List Value} (h:qt w lab v l vs): ∃ad cap,v= .slice ad l.length cap:=by
 obtain⟨h1,⟨hv,hz⟩|⟨g,cap,cells,hv,_⟩⟩:=h.row
 ·exact⟨none,0,by rw[hv,hz]⟩
 ·exact⟨_,cap,hv⟩
def je (M:Mc) (p:Int):Bool:=decide (0≤p)&&decide (p<(M.pr.length:Int))
theorem aD.B6 (h:aD w lab a P n q T M) (p:Int):
  Calls Tryz.prog 59 #[.pointer (some ⟨a.m,0,none⟩),.int .i64 p] w fun e w'=>e= .returned (.bool (je M p))∧w'=w:=by
 obtain⟨v,vs,c2,hp⟩:=h.pg
 obtain⟨ad,cap,rfl⟩:=hp.form
 clear h hp
 unfold je
 generalize M.pr.length=len at*
 by_cases h0:0≤p
 ·have d0:decide (0≤p)=true:=decide_eq_true h0
  rw[d0]
  go_enter Tryz.func59,Tryz.ntmps59
  go_wp2
  go_ret
  exact⟨by simp,rfl⟩
 ·have d0:decide (0≤p)=false:=decide_eq_false h0
  rw[d0]
  go_enter Tryz.func59,Tryz.ntmps59
  go_wp2
  go_ret
  exact⟨by simp,rfl⟩
def uT (P:Nat) (p:Int):Bool:=decide (0≤p)&&decide (p<(P:Int))
theorem aD.CD (h:aD w lab a P n q T M) (p:Int):
  Calls Tryz.prog 52 #[.pointer (some ⟨a.m,0,none⟩),.int .i64 p] w fun e w'=>e= .returned (.bool (uT P p))∧w'=w:=by
 have c3:=h.co.c3
 clear h
 unfold uT
 by_cases h0:0≤p
 ·have d0:decide (0≤p)=true:=decide_eq_true h0
  rw[d0]
  go_enter Tryz.func52,Tryz.ntmps52
  go_wp2
  go_ret
  exact⟨by simp,rfl⟩
 ·have d0:decide (0≤p)=false:=decide_eq_false h0
  rw[d0]
  go_enter Tryz.func52,Tryz.ntmps52
  go_wp2
  go_ret
  exact⟨by simp,rfl⟩
theorem aD.Ha (h:aD w lab a P n q T M):
  Calls Tryz.prog 60 #[.pointer (some ⟨a.sb,0,none⟩)] w fun e w'=>e= .returned (.int .i64 (M.sv.length:Int))∧w'=w:=by
 obtain⟨base,v,hp,_⟩:=h.sv
 exact Cb.sO hp
def dJ (pg:Int) (lv:Nat) (sv:Int):Tr:=⟨0,0,pg,lv,0,sv,0,0,0,0⟩
def jX (M:Mc) (pg sv:Int):Bool:= !je M pg||decide (sv< -1)||decide ((M.sv.length:Int)≤sv)
noncomputable def gB (P n q:Nat) (M:Mc) (x:Nat) (pg:Int) (lv:Nat) (sv:Int):Mc:=settle (fH P n q M x 0 (dJ pg lv sv)) n
end
section
variable {w W W':World} {lab labk:Nat→Nat} {a:Ad} {P n q T T':Nat} {M M':Mc}
theorem Bu (x y z:Int) (w:World):(Instr.build 172 #[(1,.int .i64 x),(2,.int .u8 y),(4,.int .i64 z)]).run Tryz.prog w= .ok (.agg #[.int .i64 0,.int .u32 0,.int .i64 x,.int .u8 y,.int .u8 0,.int .i64 z,.int .i64 0,.int .i64 0,.int .i64 0,.int .u64 0]) w:=run_build w 172 _ _ (by kernel_rfl)
theorem AH (pg:Int) (lv:Nat) (sv:Int) (h:lv<256):(dJ pg lv sv).ok:=⟨by show(0:Nat)<_;decide,h,by show(0:Nat)<_;decide,by show(0:Int)<_;decide,by show(0:Nat)<_;decide⟩
end
end Go.Proofs.YtdbailcdlngemaaGreatDoor

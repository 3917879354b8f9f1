/- YtjlbmmiomfpgiaaGreatDoorGp: of the texts Ba1 Ba2 Ba3 Ba4 Ba5 Ba6 Ba7 Ba8 Ba9 Ba10 Ba11 Ba12 what is wanted. -/
import Derived.Test.YtjlbmmiomfpgiaaGreatDoorGg
import Derived.Test.YtjlbmmiomfpgiaaGreatDoorGj
import Derived.Test.YtjlbmmiomfpgiaaGreatDoorGk
import Derived.Test.YtjlbmmiomfpgiaaGreatDoorGl
import Derived.Test.YtjlbmmiomfpgiaaGreatDoorGa
import Derived.BigRegion
set_option maxHeartbeats 16000000
set_option maxRecDepth 100000
set_option linter.unusedVariables false
set_option linter.unusedSimpArgs false
namespace Go.Proofs.YtjlbmmiomfpgiaaGreatDoor
open Go.RowKit
structure Tr where
 p:Int
 g:Nat
 pg:Int
 lv:Nat
 lf:Nat
 sv:Int
 pc:Int
 ia:Int
 il:Int
 sn:Nat
def B6:Tr:=⟨0,0,0,0,0,0,0,0,0,0⟩
structure Tr.ok (t:Tr):Prop where
 g:t.g<4294967296
 lv:t.lv<256
 lf:t.lf<256
 il:t.il<9223372036854775808
 sn:t.sn<18446744073709551616
structure Pc where
 r:Int
 s:Nat
 m:Bool
structure Pm where
 len:Nat
 O:Nat→Int
 R:Nat→Int
structure Mc where
 qu:Nat
 ag:Nat
 pr:List Pm
 pc:Nat→Pc
 th:Nat→Tr
 G:Nat→Nat
 S:Nat→Nat
 sv:List Cb.bL
 gr:Pi.Md
 pl:List (List En)
 nw:Nat
 wh:List Wh.It
structure Ad where
 m:Nat
 tb:Nat
 tg:Nat
 sb:Nat
 gb:Nat
 pb:Nat
 wb:Nat
 wg:Nat
 wm:Nat
 pr:Nat
 th:Nat
 xp:Nat
 xt:Nat
section
variable {S:Nat→Prop} {w w' w'':World}
theorem Fr.gt (h:Fr S w w'):Gt.Fr S w w':=⟨h.os,h.tape,h.output,h.size,h.block⟩
theorem Fr.cb (h:Fr S w w'):Cb.Fr S w w':=⟨h.os,h.tape,h.output,h.size,h.block⟩
theorem Fr.pi (h:Fr S w w'):Pi.Fr S w w':=⟨h.os,h.tape,h.output,h.size,h.block⟩
theorem Fr.wh (h:Fr S w w'):Wh.Fr S w w':=⟨h.os,h.tape,h.output,h.size,h.block⟩
theorem Dl (h:Gt.Fr S w w'):Fr S w w':=⟨h.os,h.tape,h.output,h.size,h.block⟩
theorem zN (h:Cb.Fr S w w'):Fr S w w':=⟨h.os,h.tape,h.output,h.size,h.block⟩
theorem ER (h:Pi.Fr S w w'):Fr S w w':=⟨h.os,h.tape,h.output,h.size,h.block⟩
theorem E5 (h:Wh.Fr S w w'):Fr S w w':=⟨h.os,h.tape,h.output,h.size,h.block⟩
theorem dc (h:Below w.heap.size w w'):Fr S w w':=⟨h.os,h.tape,h.output,h.size,fun k hk _=>h.block k hk⟩
theorem Fr.to {S':Nat→Prop} (h:Fr S w w') (hs: ∀k,k<w.heap.size→S k→S' k):Fr S' w w':=⟨h.os,h.tape,h.output,h.size,fun k hk hn=>h.block k hk (fun q=>hn (hs k hk q))⟩
theorem Fr.then {S':Nat→Prop} (h:Fr S w w') (h':Fr S' w' w'') (hs: ∀k,k<w.heap.size→S' k→S k):Fr S w w'':=
 ⟨h'.os.trans h.os,h'.tape.trans h.tape,h'.output.trans h.output,Nat.le_trans h.size h'.size,fun k hk hn=>(h'.block k (Nat.lt_of_lt_of_le hk h.size) (fun q=>hn (hs k hk q))).trans (h.block k hk hn)⟩
theorem Fr.cellAt (h:Fr S w w') {b o:Nat} (hk:b<w.heap.size) (hn: ¬S b):w'.cell? ⟨b,o,none⟩=w.cell? ⟨b,o,none⟩:=World.cell?_of_block (h.block _ hk hn)
end
structure aX (w:World) (b o:Nat) (t:Tr):Prop where
 c0:w.cell? ⟨b,o,none⟩=some (.int .i64 t.p)
 c1:w.cell? ⟨b,o+1,none⟩=some (.int .u32 (t.g:Int))
 c2:w.cell? ⟨b,o+2,none⟩=some (.int .i64 t.pg)
 c3:w.cell? ⟨b,o+3,none⟩=some (.int .u8 (t.lv:Int))
 c4:w.cell? ⟨b,o+4,none⟩=some (.int .u8 (t.lf:Int))
 c5:w.cell? ⟨b,o+5,none⟩=some (.int .i64 t.sv)
 c6:w.cell? ⟨b,o+6,none⟩=some (.int .i64 t.pc)
 c7:w.cell? ⟨b,o+7,none⟩=some (.int .i64 t.ia)
 c8:w.cell? ⟨b,o+8,none⟩=some (.int .i64 t.il)
 c9:w.cell? ⟨b,o+9,none⟩=some (.int .u64 (t.sn:Int))
structure eO (w:World) (b o:Nat) (x:Pc):Prop where
 c0:w.cell? ⟨b,o,none⟩=some (.int .i64 x.r)
 c1:w.cell? ⟨b,o+1,none⟩=some (.int .u64 (x.s:Int))
 c2:w.cell? ⟨b,o+2,none⟩=some (.bool x.m)
theorem aX.kept {w w':World} {b o:Nat} {t:Tr} (h:aX w b o t) (hb:w'.heap[b]? =w.heap[b]?):aX w' b o t:=
 have e: ∀o,w'.cell? ⟨b,o,none⟩=w.cell? ⟨b,o,none⟩:=fun _=>World.cell?_of_block hb
 ⟨(e _).trans h.c0,(e _).trans h.c1,(e _).trans h.c2,(e _).trans h.c3,(e _).trans h.c4,(e _).trans h.c5,(e _).trans h.c6,(e _).trans h.c7,(e _).trans h.c8,(e _).trans h.c9⟩
theorem eO.kept {w w':World} {b o:Nat} {t:Pc} (h:eO w b o t) (hb:w'.heap[b]? =w.heap[b]?):eO w' b o t:=
 have e: ∀o,w'.cell? ⟨b,o,none⟩=w.cell? ⟨b,o,none⟩:=fun _=>World.cell?_of_block hb
 ⟨(e _).trans h.c0,(e _).trans h.c1,(e _).trans h.c2⟩
structure Core (w:World) (a:Ad) (P n qu ag:Nat):Prop where
 c0:w.cell? ⟨a.m,0,none⟩=some (.int .u64 (qu:Int))
 c1:w.cell? ⟨a.m,1,none⟩=some (.int .u64 (ag:Int))
 c3:w.cell? ⟨a.m,3,none⟩=some (.slice (some ⟨a.pr,0,none⟩) P a.xp)
 c4:w.cell? ⟨a.m,4,none⟩=some (.slice (some ⟨a.th,0,none⟩) n a.xt)
 c5:w.cell? ⟨a.m,5,none⟩=some (.pointer (some ⟨a.tb,0,none⟩))
 c6:w.cell? ⟨a.m,6,none⟩=some (.pointer (some ⟨a.sb,0,none⟩))
 c7:w.cell? ⟨a.m,7,none⟩=some (.pointer (some ⟨a.gb,0,none⟩))
 c8:w.cell? ⟨a.m,8,none⟩=some (.pointer (some ⟨a.pb,0,none⟩))
 c9:w.cell? ⟨a.m,9,none⟩=some (.pointer (some ⟨a.wb,0,none⟩))
 fz: ∀o,w.frozen? ⟨a.m,o,none⟩=false
theorem Core.kept {w w':World} {a:Ad} {P n qu ag:Nat} (h:Core w a P n qu ag) (hb:w'.heap[a.m]? =w.heap[a.m]?):Core w' a P n qu ag:=
 have e: ∀o,w'.cell? ⟨a.m,o,none⟩=w.cell? ⟨a.m,o,none⟩:=fun _=>World.cell?_of_block hb
 ⟨(e _).trans h.c0,(e _).trans h.c1,(e _).trans h.c3,(e _).trans h.c4,(e _).trans h.c5,(e _).trans h.c6,(e _).trans h.c7,(e _).trans h.c8,(e _).trans h.c9,fun o=>(World.frozen?_of_block hb).trans (h.fz o)⟩
structure Bx (w:World) (b P:Nat) (f:Nat→Pc):Prop where
 at_: ∀i,i<P→eO w b (i*3) (f i)
 fz: ∀o,w.frozen? ⟨b,o,none⟩=false
 ok: ∀i,i<P→(f i).s<18446744073709551616
structure zq (w:World) (b n:Nat) (f:Nat→Tr):Prop where
 at_: ∀i,i<n→aX w b (i*10) (f i)
 fz: ∀o,w.frozen? ⟨b,o,none⟩=false
 ok: ∀i,i<n→(f i).ok
structure zc (w:World) (lab:Nat→Nat) (v:Value) (l:List Pm) (vs:List Value):Prop where
 row:w.ownsRow 0 35 1 v l.length vs
 len:vs.length=l.length
 at_: ∀(i:Nat) (p:Pm) (u:Value),l[i]? =some p→vs[i]? =some u→w.ownsRow 0 64 2 u p.len (Ex.aK p.O p.R p.len)∧ ∀k,u.ownBlock=some k→lab k=2
 lb: ∀k,v.ownBlock=some k→lab k=2
 ok: ∀p∈l,Ex.Rt p.len p.O p.R
theorem bj {w w':World} {base:Nat} {e:TypeId} {size:Nat} {v:Value} {n:Nat} {xs:List Value} (h:w.ownsRow base e size v n xs) (hb: ∀k,v.ownBlock=some k→w'.heap[k]? =w.heap[k]?):w'.ownsRow base e size v n xs:=by
 obtain⟨h1,h2|⟨g,cap,cells,hv,h3,h4,h5⟩⟩:=h
 ·exact⟨h1,.inl h2⟩
 ·exact⟨h1,.inr ⟨g,cap,cells,hv,h3,(hb g (by rw[hv];rfl)).trans h4,h5⟩⟩
theorem zc.kept {w w':World} {lab lab':Nat→Nat} {v:Value} {l:List Pm} {vs:List Value} (h:zc w lab v l vs) (hb: ∀k,lab k=2→w'.heap[k]? =w.heap[k]?) (hl: ∀k,lab k=2→lab' k=2):zc w' lab' v l vs:=
 ⟨bj h.row (fun k hk=>hb k (h.lb k hk)),h.len,fun i p u h1 h2=>⟨bj (h.at_ i p u h1 h2).1 (fun k hk=>hb k ((h.at_ i p u h1 h2).2 k hk)),fun k hk=>hl k ((h.at_ i p u h1 h2).2 k hk)⟩,fun k hk=>hl k (h.lb k hk),h.ok⟩
structure ax (w:World) (lab:Nat→Nat) (a:Ad) (P n q T:Nat) (M:Mc):Prop where
 hP:1≤P∧P≤64
 hn:1≤n∧n≤1024
 hq:M.qu<18446744073709551616∧M.ag<18446744073709551616
 lt: ∀k,lab k≠0→k<w.heap.size
 l0:lab 0=0
 lm:lab a.m=1
 co:Core w a P n M.qu M.ag
 pg: ∃v vs,w.cell? ⟨a.m,2,none⟩=some v∧zc w lab v M.pr vs
 lpr:lab a.pr=3
 pc:Bx w a.pr P M.pc
 lth:lab a.th=4
 th:zq w a.th n M.th
 ltb:lab a.tb=5∧lab a.tg=5
 tb:Gt.aE w a.tb a.tg n M.G M.S
 t0:Gt.kH w
 lsb:lab a.sb=6
 sv: ∃base v,Cb.cE w base a.sb P v M.sv∧ ∀k,v.ownBlock=some k→lab k=6
 gr: ∃b O,Pi.PG w b O a.gb M.gr∧ ∀k,O k→lab k=7
 pl: ∃O,PQ w O a.pb n P q T M.pl∧ ∀k,O k→lab k=8
 lw: ∀k,Wh.O3 a.wb a.wg a.wm k→lab k=9
 wh:Wh.uh w a.wb a.wg a.wm n M.nw M.wh
section
variable {w w':World} {lab:Nat→Nat} {a:Ad} {P n q T:Nat} {M:Mc}
theorem ax.frame {S:Nat→Prop} (h:ax w lab a P n q T M) (hf:Fr S w w') (hS: ∀k,lab k≠0→ ¬S k) (h0: ¬S 0):ax w' lab a P n q T M:=by
 have hb: ∀k,lab k≠0→w'.heap[k]? =w.heap[k]? :=fun k hk=>hf.block k (h.lt k hk) (hS k hk)
 have bm:=hb a.m (by rw[h.lm];decide)
 have bp:=hb a.pr (by rw[h.lpr];decide)
 have bt:=hb a.th (by rw[h.lth];decide)
 have n5: ∀k,lab k=5→ ¬S k:=fun k e=>hS k (by rw[e];decide)
 have n6: ∀k,lab k=6→ ¬S k:=fun k e=>hS k (by rw[e];decide)
 have n7: ∀k,lab k=7→ ¬S k:=fun k e=>hS k (by rw[e];decide)
 have n8: ∀k,lab k=8→ ¬S k:=fun k e=>hS k (by rw[e];decide)
 have n9: ∀k,lab k=9→ ¬S k:=fun k e=>hS k (by rw[e];decide)
 refine⟨h.hP,h.hn,h.hq,fun k hk=>Nat.lt_of_lt_of_le (h.lt k hk) hf.size,h.l0,h.lm,h.co.kept bm,?_,h.lpr,?_,h.lth,?_,h.ltb,h.tb.frame hf.gt (n5 _ h.ltb.1) (n5 _ h.ltb.2),h.t0.frame hf.gt h0,h.lsb,?_,?_,?_,h.lw,h.wh.frame hf.wh (fun k hk=>n9 k (h.lw k hk))⟩
 ·obtain⟨v,vs,e,hp⟩:=h.pg
  exact⟨v,vs,(World.cell?_of_block bm).trans e,hp.kept (fun k hk=>hb k (by rw[hk];decide)) (fun _ e=>e)⟩
 ·exact⟨fun i hi=>(h.pc.at_ i hi).kept bp,fun o=>(World.frozen?_of_block bp).trans (h.pc.fz o),h.pc.ok⟩
 ·exact⟨fun i hi=>(h.th.at_ i hi).kept bt,fun o=>(World.frozen?_of_block bt).trans (h.th.fz o),h.th.ok⟩
 ·obtain⟨base,v,hp,hl⟩:=h.sv
  exact⟨base,v,hp.frame hf.cb (n6 _ h.lsb) (fun k hk=>n6 k (hl k hk)),hl⟩
 ·obtain⟨b,O,hp,hl⟩:=h.gr
  exact⟨b,O,hp.frame hf.pi (fun k hk=>n7 k (hl k hk)),hl⟩
 ·obtain⟨O,hp,hl⟩:=h.pl
  exact⟨O,hp.frame hf (fun k hk=>n8 k (hl k hk)),hl⟩
theorem ax.below (h:ax w lab a P n q T M) (hb:Below w.heap.size w w'):ax w' lab a P n q T M:=
 h.frame (dc (S:=fun _=>False) hb) (fun _ _ q=>q) (fun q=>q)
end
structure mF (w w':World) (lab lab':Nat→Nat):Prop where
 old: ∀k,k<w.heap.size→lab' k=lab k
 lt: ∀k,lab' k≠0→k<w'.heap.size
section
variable {w w' w'':World} {lab lab' lab'':Nat→Nat} {a:Ad} {P n q T T':Nat} {M:Mc}
theorem ax.same (h:ax w lab a P n q T M) {S:Nat→Prop} (hf:Fr S w w'):mF w w' lab lab:=⟨fun _ _=>rfl,fun k hk=>Nat.lt_of_lt_of_le (h.lt k hk) hf.size⟩
theorem ax.l (h:ax w lab a P n q T M) (hl:mF w w' lab lab') {k i:Nat} (e:lab k=i) (hi:i≠0):lab' k=i:=by
 rw[hl.old k (h.lt k (by rw[e];exact hi)),e]
theorem ax.z (h:ax w lab a P n q T M) (hl:mF w w' lab lab'):lab' 0=0:=by rw[hl.old 0 h.t0.pos,h.l0]
theorem ax.BB (h:ax w lab a P n q T M) (hl:mF w w' lab lab') (hf:Fr (fun k=>lab k=5) w w') {G' S':Nat→Nat} (hr:Gt.aE w' a.tb a.tg n G' S'):ax w' lab' a P n q T {M with G:=G',S:=S'}:=by
 have hb: ∀k,lab k≠0→lab k≠5→w'.heap[k]? =w.heap[k]? :=fun k hk hi=>hf.block k (h.lt k hk) hi
 have bm:=hb a.m (by rw[h.lm];decide) (by rw[h.lm];decide)
 have bp:=hb a.pr (by rw[h.lpr];decide) (by rw[h.lpr];decide)
 have bt:=hb a.th (by rw[h.lth];decide) (by rw[h.lth];decide)
 have ne: ∀k j,lab k=j→j≠5→ ¬lab k=5:=fun k j e hj q=>hj (e.symm.trans q)
 refine⟨h.hP,h.hn,h.hq,hl.lt,h.z hl,h.l hl h.lm (by decide),h.co.kept bm,?_,h.l hl h.lpr (by decide),⟨fun i hi=>(h.pc.at_ i hi).kept bp,fun o=>(World.frozen?_of_block bp).trans (h.pc.fz o),h.pc.ok⟩,h.l hl h.lth (by decide),⟨fun i hi=>(h.th.at_ i hi).kept bt,fun o=>(World.frozen?_of_block bt).trans (h.th.fz o),h.th.ok⟩,⟨h.l hl h.ltb.1 (by decide),h.l hl h.ltb.2 (by decide)⟩,hr,h.t0.frame hf.gt (by rw[h.l0];decide),h.l hl h.lsb (by decide),?_,?_,?_,fun k hk=>h.l hl (h.lw k hk) (by decide),h.wh.frame hf.wh (fun k hk=>ne _ _ (h.lw k hk) (by decide))⟩
 ·obtain⟨v,vs,e,hp⟩:=h.pg
  exact⟨v,vs,(World.cell?_of_block bm).trans e,hp.kept (fun k hk=>hb k (by rw[hk];decide) (by rw[hk];decide)) (fun k e=>h.l hl e (by decide))⟩
 ·obtain⟨base,v,hp,hq⟩:=h.sv
  exact⟨base,v,hp.frame hf.cb (ne _ _ h.lsb (by decide)) (fun k hk=>ne _ _ (hq k hk) (by decide)),fun k hk=>h.l hl (hq k hk) (by decide)⟩
 ·obtain⟨b,O,hp,hq⟩:=h.gr
  exact⟨b,O,hp.frame hf.pi (fun k hk=>ne _ _ (hq k hk) (by decide)),fun k hk=>h.l hl (hq k hk) (by decide)⟩
 ·obtain⟨O,hp,hq⟩:=h.pl
  exact⟨O,hp.frame hf (fun k hk=>ne _ _ (hq k hk) (by decide)),fun k hk=>h.l hl (hq k hk) (by decide)⟩
theorem ax.tw (h:ax w lab a P n q T M) (hl:mF w w' lab lab') (hf:Fr (fun k=>lab k=6) w w') {L':List Cb.bL} {base:Nat} {v:Value} (hr:Cb.cE w' base a.sb P v L') (hv: ∀k,v.ownBlock=some k→lab' k=6):ax w' lab' a P n q T {M with sv:=L'}:=by
 have hb: ∀k,lab k≠0→lab k≠6→w'.heap[k]? =w.heap[k]? :=fun k hk hi=>hf.block k (h.lt k hk) hi
 have bm:=hb a.m (by rw[h.lm];decide) (by rw[h.lm];decide)
 have bp:=hb a.pr (by rw[h.lpr];decide) (by rw[h.lpr];decide)
 have bt:=hb a.th (by rw[h.lth];decide) (by rw[h.lth];decide)
 have ne: ∀k j,lab k=j→j≠6→ ¬lab k=6:=fun k j e hj q=>hj (e.symm.trans q)
 refine⟨h.hP,h.hn,h.hq,hl.lt,h.z hl,h.l hl h.lm (by decide),h.co.kept bm,?_,h.l hl h.lpr (by decide),⟨fun i hi=>(h.pc.at_ i hi).kept bp,fun o=>(World.frozen?_of_block bp).trans (h.pc.fz o),h.pc.ok⟩,h.l hl h.lth (by decide),⟨fun i hi=>(h.th.at_ i hi).kept bt,fun o=>(World.frozen?_of_block bt).trans (h.th.fz o),h.th.ok⟩,⟨h.l hl h.ltb.1 (by decide),h.l hl h.ltb.2 (by decide)⟩,h.tb.frame hf.gt (ne _ _ h.ltb.1 (by decide)) (ne _ _ h.ltb.2 (by decide)),h.t0.frame hf.gt (by rw[h.l0];decide),h.l hl h.lsb (by decide),⟨_,_,hr,hv⟩,?_,?_,fun k hk=>h.l hl (h.lw k hk) (by decide),h.wh.frame hf.wh (fun k hk=>ne _ _ (h.lw k hk) (by decide))⟩
 ·obtain⟨v,vs,e,hp⟩:=h.pg
  exact⟨v,vs,(World.cell?_of_block bm).trans e,hp.kept (fun k hk=>hb k (by rw[hk];decide) (by rw[hk];decide)) (fun k e=>h.l hl e (by decide))⟩
 ·obtain⟨b,O,hp,hq⟩:=h.gr
  exact⟨b,O,hp.frame hf.pi (fun k hk=>ne _ _ (hq k hk) (by decide)),fun k hk=>h.l hl (hq k hk) (by decide)⟩
 ·obtain⟨O,hp,hq⟩:=h.pl
  exact⟨O,hp.frame hf (fun k hk=>ne _ _ (hq k hk) (by decide)),fun k hk=>h.l hl (hq k hk) (by decide)⟩
theorem ax.Es (h:ax w lab a P n q T M) (hl:mF w w' lab lab') (hf:Fr (fun k=>lab k=7) w w') {g':Pi.Md} {b:Nat} {O:Nat→Prop} (hr:Pi.PG w' b O a.gb g') (ho: ∀k,O k→lab' k=7):ax w' lab' a P n q T {M with gr:=g'}:=by
 have hb: ∀k,lab k≠0→lab k≠7→w'.heap[k]? =w.heap[k]? :=fun k hk hi=>hf.block k (h.lt k hk) hi
 have bm:=hb a.m (by rw[h.lm];decide) (by rw[h.lm];decide)
 have bp:=hb a.pr (by rw[h.lpr];decide) (by rw[h.lpr];decide)
 have bt:=hb a.th (by rw[h.lth];decide) (by rw[h.lth];decide)
 have ne: ∀k j,lab k=j→j≠7→ ¬lab k=7:=fun k j e hj q=>hj (e.symm.trans q)
 refine⟨h.hP,h.hn,h.hq,hl.lt,h.z hl,h.l hl h.lm (by decide),h.co.kept bm,?_,h.l hl h.lpr (by decide),⟨fun i hi=>(h.pc.at_ i hi).kept bp,fun o=>(World.frozen?_of_block bp).trans (h.pc.fz o),h.pc.ok⟩,h.l hl h.lth (by decide),⟨fun i hi=>(h.th.at_ i hi).kept bt,fun o=>(World.frozen?_of_block bt).trans (h.th.fz o),h.th.ok⟩,⟨h.l hl h.ltb.1 (by decide),h.l hl h.ltb.2 (by decide)⟩,h.tb.frame hf.gt (ne _ _ h.ltb.1 (by decide)) (ne _ _ h.ltb.2 (by decide)),h.t0.frame hf.gt (by rw[h.l0];decide),h.l hl h.lsb (by decide),?_,⟨_,_,hr,ho⟩,?_,fun k hk=>h.l hl (h.lw k hk) (by decide),h.wh.frame hf.wh (fun k hk=>ne _ _ (h.lw k hk) (by decide))⟩
 ·obtain⟨v,vs,e,hp⟩:=h.pg
  exact⟨v,vs,(World.cell?_of_block bm).trans e,hp.kept (fun k hk=>hb k (by rw[hk];decide) (by rw[hk];decide)) (fun k e=>h.l hl e (by decide))⟩
 ·obtain⟨base,v,hp,hq⟩:=h.sv
  exact⟨base,v,hp.frame hf.cb (ne _ _ h.lsb (by decide)) (fun k hk=>ne _ _ (hq k hk) (by decide)),fun k hk=>h.l hl (hq k hk) (by decide)⟩
 ·obtain⟨O,hp,hq⟩:=h.pl
  exact⟨O,hp.frame hf (fun k hk=>ne _ _ (hq k hk) (by decide)),fun k hk=>h.l hl (hq k hk) (by decide)⟩
theorem ax.CH (h:ax w lab a P n q T M) (hl:mF w w' lab lab') (hf:Fr (fun k=>lab k=8) w w') {l':List (List En)} {O:Nat→Prop} (hr:PQ w' O a.pb n P q T' l') (ho: ∀k,O k→lab' k=8):ax w' lab' a P n q T' {M with pl:=l'}:=by
 have hb: ∀k,lab k≠0→lab k≠8→w'.heap[k]? =w.heap[k]? :=fun k hk hi=>hf.block k (h.lt k hk) hi
 have bm:=hb a.m (by rw[h.lm];decide) (by rw[h.lm];decide)
 have bp:=hb a.pr (by rw[h.lpr];decide) (by rw[h.lpr];decide)
 have bt:=hb a.th (by rw[h.lth];decide) (by rw[h.lth];decide)
 have ne: ∀k j,lab k=j→j≠8→ ¬lab k=8:=fun k j e hj q=>hj (e.symm.trans q)
 refine⟨h.hP,h.hn,h.hq,hl.lt,h.z hl,h.l hl h.lm (by decide),h.co.kept bm,?_,h.l hl h.lpr (by decide),⟨fun i hi=>(h.pc.at_ i hi).kept bp,fun o=>(World.frozen?_of_block bp).trans (h.pc.fz o),h.pc.ok⟩,h.l hl h.lth (by decide),⟨fun i hi=>(h.th.at_ i hi).kept bt,fun o=>(World.frozen?_of_block bt).trans (h.th.fz o),h.th.ok⟩,⟨h.l hl h.ltb.1 (by decide),h.l hl h.ltb.2 (by decide)⟩,h.tb.frame hf.gt (ne _ _ h.ltb.1 (by decide)) (ne _ _ h.ltb.2 (by decide)),h.t0.frame hf.gt (by rw[h.l0];decide),h.l hl h.lsb (by decide),?_,?_,⟨_,hr,ho⟩,fun k hk=>h.l hl (h.lw k hk) (by decide),h.wh.frame hf.wh (fun k hk=>ne _ _ (h.lw k hk) (by decide))⟩
 ·obtain⟨v,vs,e,hp⟩:=h.pg
  exact⟨v,vs,(World.cell?_of_block bm).trans e,hp.kept (fun k hk=>hb k (by rw[hk];decide) (by rw[hk];decide)) (fun k e=>h.l hl e (by decide))⟩
 ·obtain⟨base,v,hp,hq⟩:=h.sv
  exact⟨base,v,hp.frame hf.cb (ne _ _ h.lsb (by decide)) (fun k hk=>ne _ _ (hq k hk) (by decide)),fun k hk=>h.l hl (hq k hk) (by decide)⟩
 ·obtain⟨b,O,hp,hq⟩:=h.gr
  exact⟨b,O,hp.frame hf.pi (fun k hk=>ne _ _ (hq k hk) (by decide)),fun k hk=>h.l hl (hq k hk) (by decide)⟩
theorem ax.EV (h:ax w lab a P n q T M) (hl:mF w w' lab lab') (hf:Fr (fun k=>lab k=9) w w') {nw':Nat} {l':List Wh.It} (hr:Wh.uh w' a.wb a.wg a.wm n nw' l'):ax w' lab' a P n q T {M with nw:=nw',wh:=l'}:=by
 have hb: ∀k,lab k≠0→lab k≠9→w'.heap[k]? =w.heap[k]? :=fun k hk hi=>hf.block k (h.lt k hk) hi
 have bm:=hb a.m (by rw[h.lm];decide) (by rw[h.lm];decide)
 have bp:=hb a.pr (by rw[h.lpr];decide) (by rw[h.lpr];decide)
 have bt:=hb a.th (by rw[h.lth];decide) (by rw[h.lth];decide)
 have ne: ∀k j,lab k=j→j≠9→ ¬lab k=9:=fun k j e hj q=>hj (e.symm.trans q)
 refine⟨h.hP,h.hn,h.hq,hl.lt,h.z hl,h.l hl h.lm (by decide),h.co.kept bm,?_,h.l hl h.lpr (by decide),⟨fun i hi=>(h.pc.at_ i hi).kept bp,fun o=>(World.frozen?_of_block bp).trans (h.pc.fz o),h.pc.ok⟩,h.l hl h.lth (by decide),⟨fun i hi=>(h.th.at_ i hi).kept bt,fun o=>(World.frozen?_of_block bt).trans (h.th.fz o),h.th.ok⟩,⟨h.l hl h.ltb.1 (by decide),h.l hl h.ltb.2 (by decide)⟩,h.tb.frame hf.gt (ne _ _ h.ltb.1 (by decide)) (ne _ _ h.ltb.2 (by decide)),h.t0.frame hf.gt (by rw[h.l0];decide),h.l hl h.lsb (by decide),?_,?_,?_,fun k hk=>h.l hl (h.lw k hk) (by decide),hr⟩
 ·obtain⟨v,vs,e,hp⟩:=h.pg
  exact⟨v,vs,(World.cell?_of_block bm).trans e,hp.kept (fun k hk=>hb k (by rw[hk];decide) (by rw[hk];decide)) (fun k e=>h.l hl e (by decide))⟩
 ·obtain⟨base,v,hp,hq⟩:=h.sv
  exact⟨base,v,hp.frame hf.cb (ne _ _ h.lsb (by decide)) (fun k hk=>ne _ _ (hq k hk) (by decide)),fun k hk=>h.l hl (hq k hk) (by decide)⟩
 ·obtain⟨b,O,hp,hq⟩:=h.gr
  exact⟨b,O,hp.frame hf.pi (fun k hk=>ne _ _ (hq k hk) (by decide)),fun k hk=>h.l hl (hq k hk) (by decide)⟩
 ·obtain⟨O,hp,hq⟩:=h.pl
  exact⟨O,hp.frame hf (fun k hk=>ne _ _ (hq k hk) (by decide)),fun k hk=>h.l hl (hq k hk) (by decide)⟩
theorem ax.AD (h:ax w lab a P n q T M) (hl:mF w w' lab lab') (hf:Fr (fun k=>lab k=3) w w') {f:Nat→Pc} (hr:Bx w' a.pr P f):ax w' lab' a P n q T {M with pc:=f}:=by
 have hb: ∀k,lab k≠0→lab k≠3→w'.heap[k]? =w.heap[k]? :=fun k hk hi=>hf.block k (h.lt k hk) hi
 have bm:=hb a.m (by rw[h.lm];decide) (by rw[h.lm];decide)
 have bt:=hb a.th (by rw[h.lth];decide) (by rw[h.lth];decide)
 have ne: ∀k j,lab k=j→j≠3→ ¬lab k=3:=fun k j e hj q=>hj (e.symm.trans q)
 refine⟨h.hP,h.hn,h.hq,hl.lt,h.z hl,h.l hl h.lm (by decide),h.co.kept bm,?_,h.l hl h.lpr (by decide),hr,h.l hl h.lth (by decide),⟨fun i hi=>(h.th.at_ i hi).kept bt,fun o=>(World.frozen?_of_block bt).trans (h.th.fz o),h.th.ok⟩,⟨h.l hl h.ltb.1 (by decide),h.l hl h.ltb.2 (by decide)⟩,h.tb.frame hf.gt (ne _ _ h.ltb.1 (by decide)) (ne _ _ h.ltb.2 (by decide)),h.t0.frame hf.gt (by rw[h.l0];decide),h.l hl h.lsb (by decide),?_,?_,?_,fun k hk=>h.l hl (h.lw k hk) (by decide),h.wh.frame hf.wh (fun k hk=>ne _ _ (h.lw k hk) (by decide))⟩
 ·obtain⟨v,vs,e,hp⟩:=h.pg
  exact⟨v,vs,(World.cell?_of_block bm).trans e,hp.kept (fun k hk=>hb k (by rw[hk];decide) (by rw[hk];decide)) (fun k e=>h.l hl e (by decide))⟩
 ·obtain⟨base,v,hp,hq⟩:=h.sv
  exact⟨base,v,hp.frame hf.cb (ne _ _ h.lsb (by decide)) (fun k hk=>ne _ _ (hq k hk) (by decide)),fun k hk=>h.l hl (hq k hk) (by decide)⟩
 ·obtain⟨b,O,hp,hq⟩:=h.gr
  exact⟨b,O,hp.frame hf.pi (fun k hk=>ne _ _ (hq k hk) (by decide)),fun k hk=>h.l hl (hq k hk) (by decide)⟩
 ·obtain⟨O,hp,hq⟩:=h.pl
  exact⟨O,hp.frame hf (fun k hk=>ne _ _ (hq k hk) (by decide)),fun k hk=>h.l hl (hq k hk) (by decide)⟩
theorem ax.zF (h:ax w lab a P n q T M) (hl:mF w w' lab lab') (hf:Fr (fun k=>lab k=4) w w') {f:Nat→Tr} (hr:zq w' a.th n f):ax w' lab' a P n q T {M with th:=f}:=by
 have hb: ∀k,lab k≠0→lab k≠4→w'.heap[k]? =w.heap[k]? :=fun k hk hi=>hf.block k (h.lt k hk) hi
 have bm:=hb a.m (by rw[h.lm];decide) (by rw[h.lm];decide)
 have bp:=hb a.pr (by rw[h.lpr];decide) (by rw[h.lpr];decide)
 have ne: ∀k j,lab k=j→j≠4→ ¬lab k=4:=fun k j e hj q=>hj (e.symm.trans q)
 refine⟨h.hP,h.hn,h.hq,hl.lt,h.z hl,h.l hl h.lm (by decide),h.co.kept bm,?_,h.l hl h.lpr (by decide),⟨fun i hi=>(h.pc.at_ i hi).kept bp,fun o=>(World.frozen?_of_block bp).trans (h.pc.fz o),h.pc.ok⟩,h.l hl h.lth (by decide),hr,⟨h.l hl h.ltb.1 (by decide),h.l hl h.ltb.2 (by decide)⟩,h.tb.frame hf.gt (ne _ _ h.ltb.1 (by decide)) (ne _ _ h.ltb.2 (by decide)),h.t0.frame hf.gt (by rw[h.l0];decide),h.l hl h.lsb (by decide),?_,?_,?_,fun k hk=>h.l hl (h.lw k hk) (by decide),h.wh.frame hf.wh (fun k hk=>ne _ _ (h.lw k hk) (by decide))⟩
 ·obtain⟨v,vs,e,hp⟩:=h.pg
  exact⟨v,vs,(World.cell?_of_block bm).trans e,hp.kept (fun k hk=>hb k (by rw[hk];decide) (by rw[hk];decide)) (fun k e=>h.l hl e (by decide))⟩
 ·obtain⟨base,v,hp,hq⟩:=h.sv
  exact⟨base,v,hp.frame hf.cb (ne _ _ h.lsb (by decide)) (fun k hk=>ne _ _ (hq k hk) (by decide)),fun k hk=>h.l hl (hq k hk) (by decide)⟩
 ·obtain⟨b,O,hp,hq⟩:=h.gr
  exact⟨b,O,hp.frame hf.pi (fun k hk=>ne _ _ (hq k hk) (by decide)),fun k hk=>h.l hl (hq k hk) (by decide)⟩
 ·obtain⟨O,hp,hq⟩:=h.pl
  exact⟨O,hp.frame hf (fun k hk=>ne _ _ (hq k hk) (by decide)),fun k hk=>h.l hl (hq k hk) (by decide)⟩
def az (w w':World) (lab:Nat→Nat) (a:Ad) (P n q T:Nat) (M:Mc):Prop:= ∃lab',ax w' lab' a P n q T M∧mF w w' lab lab'∧Fr (fun k=>lab k≠0) w w'
theorem mF.then (h:mF w w' lab lab') (h':mF w' w'' lab' lab'') (hs:w.heap.size≤w'.heap.size):mF w w'' lab lab'':=⟨fun k hk=>(h'.old k (Nat.lt_of_lt_of_le hk hs)).trans (h.old k hk),h'.lt⟩
theorem ax.stay (h:ax w lab a P n q T M) (hb:Below w.heap.size w w'):az w w' lab a P n q T M:=⟨lab,h.below hb,h.same (S:=fun _=>False) (dc hb),dc hb⟩
theorem ax.goes (h:ax w lab a P n q T M):az w w lab a P n q T M:=h.stay (Below.refl _ _)
theorem az.then {M':Mc} (h:az w w' lab a P n q T M) (h': ∀lab',ax w' lab' a P n q T M→az w' w'' lab' a P n q T' M'):az w w'' lab a P n q T' M':=by
 obtain⟨l1,i1,b1,f1⟩:=h
 obtain⟨l2,i2,b2,f2⟩:=h' l1 i1
 exact⟨l2,i2,b1.then b2 f1.size,f1.then f2 (fun k hk hn=>by rw[←b1.old k hk];exact hn)⟩
theorem az.after {M':Mc} (hl:mF w w' lab lab') (hf:Fr (fun k=>lab k≠0) w w') (h':az w' w'' lab' a P n q T' M'):az w w'' lab a P n q T' M':=by
 obtain⟨l2,i2,b2,f2⟩:=h'
 exact⟨l2,i2,hl.then b2 hf.size,hf.then f2 (fun k hk hn=>by rw[←hl.old k hk];exact hn)⟩
theorem az.ahead (hb:Below w.heap.size w w') (h:az w' w'' lab a P n q T M):az w w'' lab a P n q T M:=by
 obtain⟨l2,i2,b2,f2⟩:=h
 exact⟨l2,i2,⟨fun k hk=>b2.old k (Nat.lt_of_lt_of_le hk hb.size),b2.lt⟩,(dc hb).then f2 (fun _ _ q=>q)⟩
theorem az.more (h:az w w' lab a P n q T M) (hb:Below w'.heap.size w' w''):az w w'' lab a P n q T M:=h.then (fun _ i=>i.stay hb)
theorem ax.ki (h:ax w lab a P n q T M) (hT:T≤T'):ax w lab a P n q T' M:=by
 obtain⟨O,hp,hl⟩:=h.pl
 exact⟨h.hP,h.hn,h.hq,h.lt,h.l0,h.lm,h.co,h.pg,h.lpr,h.pc,h.lth,h.th,h.ltb,h.tb,h.t0,h.lsb,h.sv,h.gr,⟨O,hp.more hT,hl⟩,h.lw,h.wh⟩
theorem az.ki (h:az w w' lab a P n q T M) (hT:T≤T'):az w w' lab a P n q T' M:=by
 obtain⟨l1,i1,b1,f1⟩:=h
 exact⟨l1,i1.ki hT,b1,f1⟩
end
def dC (M:Mc) (n:Nat) (t:Tr):Nat:=if Gt.hasB n M.G M.S t.p t.g then M.S t.p.toNat else 0
def bH (M:Mc) (t:Tr):Int:=Ag.si t.lv t.sn M.nw M.ag
def cB (M:Mc) (n:Nat) (t:Tr):Ke.K:=
 if 0<(Cb.iC M.sv t.sv).l then Ke.bQ ((Cb.iC M.sv t.sv).d:Int)
 else if dC M n t=1 then Ke.aW (bH M t)
 else if dC M n t=2 then Ke.aW (max (t.lv:Int) (t.lf:Int))
 else Ke.aW (t.lv:Int)
theorem sH {w:World} {b g n:Nat} {G S:Nat→Nat} (h:Gt.aE w b g n G S) (p:Int) (q:Nat):
  Calls Tryz.prog 96 #[.pointer (some ⟨b,0,none⟩),.agg #[.int .i64 p,.int .u32 (q:Int)]] w fun e w'=>e= .returned (.tuple #[.int .i64 ((if Gt.hasB n G S p q then S p.toNat else 0:Nat):Int),.bool (Gt.hasB n G S p q)])∧Below w.heap.size w w':=by
 cases hh:Gt.hasB n G S p q with
 |false=>
  simp only[Bool.false_eq_true,if_false]
  exact Gt.ry h p q hh
 |true=>
  obtain⟨x,rfl,h1,h2,h3⟩:=Gt.nh hh
  simp only[if_true,Int.toNat_natCast]
  exact Gt.r7 h x q h1 h2 h3
theorem kc {W0 W:World} (hb:Below W0.heap.size W0 W) {b o:Nat} {u:Value} (c:W0.cell? ⟨b,o,none⟩=some u):W.cell? ⟨b,o,none⟩=some u:=(hb.cell (p:=⟨b,o,none⟩) (World.block_lt_of_cell? W0 _ c)).trans c
theorem bt {W0 W W':World} (hb:Below W0.heap.size W0 W) (hb':Below W.heap.size W W'):Below W0.heap.size W0 W':=hb.trans (hb'.mono hb.size)
theorem bp {W0 W W':World} (h:Below W0.heap.size W0 W) (a:W'.heap=W.heap) (b:W'.os=W.os) (c:W'.tape=W.tape) (d:W'.output=W.output):Below W0.heap.size W0 W':=ak h a b c d
theorem beq {w w':World} (h:w'=w):Below w.heap.size w w':=by rw[h];exact Below.refl _ _
theorem aU (w:World) (c:Array Value) (t:TypeId) (i:Nat) (u:Value) (h:c[i]? =some u):(w.alloc (.cells c t)).cell? ⟨w.heap.size,i,none⟩=some u:=by
 rw[←h];exact Gt.aB _ _ _ _
section
variable {w:World} {lab:Nat→Nat} {a:Ad} {P n q T:Nat} {M:Mc}
theorem ax.state (h:ax w lab a P n q T M) (t:Tr):
  Calls Tryz.prog 54 #[.pointer (some ⟨a.m,0,none⟩),.agg #[.int .i64 t.p,.int .u32 (t.g:Int),.int .i64 t.pg,.int .u8 (t.lv:Int),.int .u8 (t.lf:Int),.int .i64 t.sv,.int .i64 t.pc,.int .i64 t.ia,.int .i64 t.il,.int .u64 (t.sn:Int)]] w fun e w'=>e= .returned (.int .i64 (dC M n t:Int))∧Below w.heap.size w w':=by
 have hbw:Below w.heap.size w (w.alloc (.cells #[.int .i64 t.p,.int .u32 (t.g:Int),.int .i64 t.pg,.int .u8 (t.lv:Int),.int .u8 (t.lf:Int),.int .i64 t.sv,.int .i64 t.pc,.int .i64 t.ia,.int .i64 t.il,.int .u64 (t.sn:Int)] 111)):=(Below.refl _ _).alloc (Nat.le_refl _) _
 have h0:=h.below hbw
 have k0:=aU w #[.int .i64 t.p,.int .u32 (t.g:Int),.int .i64 t.pg,.int .u8 (t.lv:Int),.int .u8 (t.lf:Int),.int .i64 t.sv,.int .i64 t.pc,.int .i64 t.ia,.int .i64 t.il,.int .u64 (t.sn:Int)] 111 0 _ rfl
 have k1:=aU w #[.int .i64 t.p,.int .u32 (t.g:Int),.int .i64 t.pg,.int .u8 (t.lv:Int),.int .u8 (t.lf:Int),.int .i64 t.sv,.int .i64 t.pc,.int .i64 t.ia,.int .i64 t.il,.int .u64 (t.sn:Int)] 111 1 _ rfl
 have HBW:=aa hbw
 clear h hbw
 generalize hW:w.alloc (.cells #[.int .i64 t.p,.int .u32 (t.g:Int),.int .i64 t.pg,.int .u8 (t.lv:Int),.int .u8 (t.lf:Int),.int .i64 t.sv,.int .i64 t.pc,.int .i64 t.ia,.int .i64 t.il,.int .u64 (t.sn:Int)] 111)=W0 at*
 have HW:=aa hW
 clear hW
 have HS:=aa (fun W (hb:Below W0.heap.size W0 W)=>(sH ((h0.below hb).tb) t.p t.g).mono (fun _ _ ⟨e,b⟩=>(And.intro e (bt hb b))))
 have c5:=h0.co.c5
 have H0:=aa (Below.refl W0.heap.size W0)
 have hst:(if Gt.hasB n M.G M.S t.p t.g then M.S t.p.toNat else 0)=dC M n t:=rfl
 rw[hst] at HS
 clear h0 hst
 generalize dC M n t=st at*
 generalize Gt.hasB n M.G M.S t.p t.g=hb at*
 go_enter Tryz.func54,Tryz.ntmps54
 go_wp2
 rw[HW.out]
 go_region_held3 (fun w'=>w'.cell? ⟨a.m,5,none⟩=some (.pointer (some ⟨a.tb,0,none⟩))∧w'.cell? ⟨w.heap.size,0,none⟩=some (.int .i64 t.p)∧w'.cell? ⟨w.heap.size,1,none⟩=some (.int .u32 (t.g:Int)))
  (first|exact⟨kc HB1.out c5,kc HB1.out k0,kc HB1.out k1⟩|go_keep)
  (first
   |(go_at_call 96;refine(HS.out _ (by exact bp H0.out rfl rfl rfl rfl)).mono ?_;rintro e w1 ⟨rfl,hb1⟩;have HB1:=aa hb1;clear hb1))
 go_wp2
 go_ret
 exact⟨rfl,HBW.out.trans (HB1.out.mono HBW.out.size)⟩
theorem ax.now (h:ax w lab a P n q T M):
  Calls Tryz.prog 22 #[.pointer (some ⟨a.m,0,none⟩)] w fun e w'=>e= .returned (.int .u64 (M.nw:Int))∧w'=w:=by
 have c9:=h.co.c9
 have HN:=aa (Wh.BQ h.wh)
 clear h
 go_enter Tryz.func22,Tryz.ntmps22
 go_wp2_with (first
  |(go_at_call 52;refine(HN.out).mono ?_;rintro e w1 ⟨rfl,hw⟩;subst hw))
 go_ret
 exact⟨rfl,rfl⟩
theorem ax.Dh (h:ax w lab a P n q T M):M.nw<18446744073709551616:=h.wh.facts.2.2.2.2.1
theorem ax.DQ (h:ax w lab a P n q T M) (t:Tr) (ht:t.ok):
  Calls Tryz.prog 124 #[.pointer (some ⟨a.m,0,none⟩),.agg #[.int .i64 t.p,.int .u32 (t.g:Int),.int .i64 t.pg,.int .u8 (t.lv:Int),.int .u8 (t.lf:Int),.int .i64 t.sv,.int .i64 t.pc,.int .i64 t.ia,.int .i64 t.il,.int .u64 (t.sn:Int)]] w fun e w'=>e= .returned (.int .u8 (bH M t))∧Below w.heap.size w w':=by
 have hbw:Below w.heap.size w (w.alloc (.cells #[.int .i64 t.p,.int .u32 (t.g:Int),.int .i64 t.pg,.int .u8 (t.lv:Int),.int .u8 (t.lf:Int),.int .i64 t.sv,.int .i64 t.pc,.int .i64 t.ia,.int .i64 t.il,.int .u64 (t.sn:Int)] 111)):=(Below.refl _ _).alloc (Nat.le_refl _) _
 have h0:=h.below hbw
 have k0:=aU w #[.int .i64 t.p,.int .u32 (t.g:Int),.int .i64 t.pg,.int .u8 (t.lv:Int),.int .u8 (t.lf:Int),.int .i64 t.sv,.int .i64 t.pc,.int .i64 t.ia,.int .i64 t.il,.int .u64 (t.sn:Int)] 111 3 _ rfl
 have k1:=aU w #[.int .i64 t.p,.int .u32 (t.g:Int),.int .i64 t.pg,.int .u8 (t.lv:Int),.int .u8 (t.lf:Int),.int .i64 t.sv,.int .i64 t.pc,.int .i64 t.ia,.int .i64 t.il,.int .u64 (t.sn:Int)] 111 9 _ rfl
 have HBW:=aa hbw
 have hnw:=h.Dh
 have hag:=h.hq.2
 clear h hbw
 generalize hW:w.alloc (.cells #[.int .i64 t.p,.int .u32 (t.g:Int),.int .i64 t.pg,.int .u8 (t.lv:Int),.int .u8 (t.lf:Int),.int .i64 t.sv,.int .i64 t.pc,.int .i64 t.ia,.int .i64 t.il,.int .u64 (t.sn:Int)] 111)=W0 at*
 have HW:=aa hW
 clear hW
 have HN:=aa (fun W (hb:Below W0.heap.size W0 W)=>(h0.below hb).now.mono (fun _ _ ⟨e,b⟩=>(And.intro e (bt hb (beq b)))))
 have HL:=aa (fun W (hb:Below W0.heap.size W0 W)=>(Ag.xA (t.lv:Int) (t.sn:Int) (M.nw:Int) (M.ag:Int) W (by have:=ht.lv;exact⟨by omega,by omega⟩) (by have:=ht.sn;exact⟨by omega,by omega⟩) ⟨by omega,by omega⟩ ⟨by omega,by omega⟩).mono (fun _ _ ⟨e,b⟩=>(And.intro e (bt hb (beq b)))))
 have c1:=h0.co.c1
 have H0:=aa (Below.refl W0.heap.size W0)
 have hst:Ag.si t.lv t.sn M.nw M.ag=bH M t:=rfl
 rw[hst] at HL
 clear h0 hst hnw hag ht
 generalize bH M t=st at*
 go_enter Tryz.func124,Tryz.ntmps124
 go_wp2
 rw[HW.out]
 go_region_held3 (fun w'=>w'.cell? ⟨a.m,1,none⟩=some (.int .u64 (M.ag:Int))∧w'.cell? ⟨w.heap.size,3,none⟩=some (.int .u8 (t.lv:Int))∧w'.cell? ⟨w.heap.size,9,none⟩=some (.int .u64 (t.sn:Int)))
  (first|exact⟨kc HB2.out c1,kc HB2.out k0,kc HB2.out k1⟩|exact⟨kc HB1.out c1,kc HB1.out k0,kc HB1.out k1⟩|go_keep)
  (first
   |(go_at_call 22;refine(HN.out _ (by exact bp H0.out rfl rfl rfl rfl)).mono ?_;rintro e w1 ⟨rfl,hb1⟩;have HB1:=aa hb1;clear hb1)
   |(go_at_call 155;refine(HL.out _ (by exact bp HB1.out rfl rfl rfl rfl)).mono ?_;rintro e w2 ⟨rfl,hb2⟩;have HB2:=aa hb2;clear hb2))
 go_wp2
 go_ret
 exact⟨rfl,HBW.out.trans (HB2.out.mono HBW.out.size)⟩
theorem wU (h:ax w lab a P n q T M) (t:Tr) (ht:t.ok):(cB M n t).ok∧Ke.aA (cB M n t)=true:=by
 have hl:=ht.lv
 have hf:=ht.lf
 have hfix: ∀l:Int,0≤l→l<256→(Ke.aW l).ok∧Ke.aA (Ke.aW l)=true:=fun l h1 h2=>⟨⟨⟨Int.le_refl 0,by show(0:Int)<_;decide⟩,h1,h2⟩,rfl⟩
 unfold cB
 split
 ·obtain⟨base,v,hp,_⟩:=h.sv
  rename_i hpos
  refine⟨⟨⟨Int.natCast_nonneg _,?_⟩,Int.le_refl 0,by show(0:Int)<_;decide⟩,rfl⟩
  show(((Cb.iC M.sv t.sv).d:Nat):Int)<_
  have hd:(Cb.iC M.sv t.sv).d<18446744073709551616:=by
   rcases Cb.jP M.sv t.sv with ⟨_,e⟩|⟨k,x,e,hx⟩
   ·unfold Cb.iC;rw[if_neg e];decide
   ·rw[e,(Cb.lO hx).1]
    exact(hp.f.all x (List.mem_of_getElem? hx)).2.2.2.2
  omega
 ·split
  ·have hlv:0≤bH M t∧bH M t<256:=by
    unfold bH Ag.si
    by_cases e:(M.ag:Int)=0
    ·rw[if_pos e];omega
    ·rw[if_neg e]
     have hs:0≤Ag.ij M.nw t.sn:=by unfold Ag.ij;split<;>omega
     have hd:0≤Ag.ij M.nw t.sn/(M.ag:Int):=Int.ediv_nonneg hs (by omega)
     split<;>omega
   exact hfix _ hlv.1 hlv.2
  ·split
   ·exact hfix _ (by omega) (by omega)
   ·exact hfix _ (by omega) (by omega)
end
theorem dq {B:Nat} {w W:World} (h:Below B w W) {a:Addr} (ha:B≤a.block) (u:Value):Below B w (W.setCell a u):=
 ⟨h.os,h.tape,h.output,by simpa using h.size,fun k hk=>(Below.heap_setCell _ _ _ _ (by omega)).trans (h.block k hk)⟩
structure du (W:World) (b:Nat):Prop where
 c0:W.cell? ⟨b,0,none⟩=some (.bool false)
 c1:W.cell? ⟨b,1,none⟩=some (.int .u64 0)
 c2:W.cell? ⟨b,2,none⟩=some (.int .u8 0)
 f0:W.frozen? ⟨b,0,none⟩=false
 f1:W.frozen? ⟨b,1,none⟩=false
 f2:W.frozen? ⟨b,2,none⟩=false
theorem du.kept {W W':World} {b:Nat} (h:du W b) (hb:Below W.heap.size W W'):du W' b:=by
 have e:=hb.block b (World.block_lt_of_cell? W _ h.c0)
 exact⟨(World.cell?_of_block e).trans h.c0,(World.cell?_of_block e).trans h.c1,(World.cell?_of_block e).trans h.c2,(World.frozen?_of_block e).trans h.f0,(World.frozen?_of_block e).trans h.f1,(World.frozen?_of_block e).trans h.f2⟩
theorem du.new (W:World):du (W.alloc (.cells #[.bool false,.int .u64 0,.int .u8 0] 67)) W.heap.size:=
 ⟨aU _ _ _ 0 _ rfl,aU _ _ _ 1 _ rfl,aU _ _ _ 2 _ rfl,Gt.aF _ _ _ _,Gt.aF _ _ _ _,Gt.aF _ _ _ _⟩
theorem aX.new (W:World) (t:Tr):aX (W.alloc (.cells #[.int .i64 t.p,.int .u32 (t.g:Int),.int .i64 t.pg,.int .u8 (t.lv:Int),.int .u8 (t.lf:Int),.int .i64 t.sv,.int .i64 t.pc,.int .i64 t.ia,.int .i64 t.il,.int .u64 (t.sn:Int)] 111)) W.heap.size 0 t:=
 ⟨aU _ _ _ 0 _ rfl,aU _ _ _ 1 _ rfl,aU _ _ _ 2 _ rfl,aU _ _ _ 3 _ rfl,aU _ _ _ 4 _ rfl,aU _ _ _ 5 _ rfl,aU _ _ _ 6 _ rfl,aU _ _ _ 7 _ rfl,aU _ _ _ 8 _ rfl,aU _ _ _ 9 _ rfl⟩
theorem aX.low {W W':World} {b o:Nat} {t:Tr} (h:aX W b o t) (hb:Below W.heap.size W W'):aX W' b o t:=h.kept (hb.block b (World.block_lt_of_cell? W _ h.c0))
section
variable {w:World} {lab:Nat→Nat} {a:Ad} {P n q T:Nat} {M:Mc}
theorem ax.BW (h:ax w lab a P n q T M) (i:Int):
  Calls Tryz.prog 127 #[.pointer (some ⟨a.sb,0,none⟩),.int .i64 i] w fun e w'=>e= .returned (.bool (decide (0<(Cb.iC M.sv i).l)))∧Below w.heap.size w w':=by
 obtain⟨base,v,hp,_⟩:=h.sv
 exact(Cb.vh hp i).mono (fun _ _ ⟨e,c,b⟩=>⟨e,Cb.oV b⟩)
theorem ax.deadline (h:ax w lab a P n q T M) (i:Int):
  Calls Tryz.prog 58 #[.pointer (some ⟨a.sb,0,none⟩),.int .i64 i] w fun e w'=>e= .returned (.int .u64 ((Cb.iC M.sv i).d:Int))∧Below w.heap.size w w':=by
 obtain⟨base,v,hp,_⟩:=h.sv
 exact(Cb.pD hp i).mono (fun _ _ ⟨e,c,b⟩=>⟨e,Cb.oV b⟩)
theorem ax.own (h:ax w lab a P n q T M) (t:Tr) (ht:t.ok):
  Calls Tryz.prog 78 #[.pointer (some ⟨a.m,0,none⟩),.agg #[.int .i64 t.p,.int .u32 (t.g:Int),.int .i64 t.pg,.int .u8 (t.lv:Int),.int .u8 (t.lf:Int),.int .i64 t.sv,.int .i64 t.pc,.int .i64 t.ia,.int .i64 t.il,.int .u64 (t.sn:Int)]] w fun e w'=>e= .returned (.agg #[.bool (cB M n t).e,.int .u64 (cB M n t).d,.int .u8 (cB M n t).l])∧Below w.heap.size w w':=by
 have hbw1:Below w.heap.size w (w.alloc (.cells #[.int .i64 t.p,.int .u32 (t.g:Int),.int .i64 t.pg,.int .u8 (t.lv:Int),.int .u8 (t.lf:Int),.int .i64 t.sv,.int .i64 t.pc,.int .i64 t.ia,.int .i64 t.il,.int .u64 (t.sn:Int)] 111)):=(Below.refl _ _).alloc (Nat.le_refl _) _
 have hbw:Below w.heap.size w ((w.alloc (.cells #[.int .i64 t.p,.int .u32 (t.g:Int),.int .i64 t.pg,.int .u8 (t.lv:Int),.int .u8 (t.lf:Int),.int .i64 t.sv,.int .i64 t.pc,.int .i64 t.ia,.int .i64 t.il,.int .u64 (t.sn:Int)] 111)).alloc (.cells #[.bool false,.int .u64 0,.int .u8 0] 67)):=hbw1.alloc (by simp) _
 have h0:=h.below hbw
 have kt:aX ((w.alloc (.cells #[.int .i64 t.p,.int .u32 (t.g:Int),.int .i64 t.pg,.int .u8 (t.lv:Int),.int .u8 (t.lf:Int),.int .i64 t.sv,.int .i64 t.pc,.int .i64 t.ia,.int .i64 t.il,.int .u64 (t.sn:Int)] 111)).alloc (.cells #[.bool false,.int .u64 0,.int .u8 0] 67)) w.heap.size 0 t:=(aX.new w t).low ((Below.refl _ _).alloc (Nat.le_refl _) _)
 have kn:=du.new (w.alloc (.cells #[.int .i64 t.p,.int .u32 (t.g:Int),.int .i64 t.pg,.int .u8 (t.lv:Int),.int .u8 (t.lf:Int),.int .i64 t.sv,.int .i64 t.pc,.int .i64 t.ia,.int .i64 t.il,.int .u64 (t.sn:Int)] 111))
 rw[show(w.alloc (.cells #[.int .i64 t.p,.int .u32 (t.g:Int),.int .i64 t.pg,.int .u8 (t.lv:Int),.int .u8 (t.lf:Int),.int .i64 t.sv,.int .i64 t.pc,.int .i64 t.ia,.int .i64 t.il,.int .u64 (t.sn:Int)] 111)).heap.size=w.heap.size+1 by simp] at kn
 have HBW:=aa hbw
 have hm: ¬a.m=w.heap.size+1:=by have:=h.lt a.m (by rw[h.lm];decide);omega
 have hm': ¬w.heap.size+1=a.m:=fun e=>hm e.symm
 clear h hbw hbw1
 generalize hW:(w.alloc (.cells #[.int .i64 t.p,.int .u32 (t.g:Int),.int .i64 t.pg,.int .u8 (t.lv:Int),.int .u8 (t.lf:Int),.int .i64 t.sv,.int .i64 t.pc,.int .i64 t.ia,.int .i64 t.il,.int .u64 (t.sn:Int)] 111)).alloc (.cells #[.bool false,.int .u64 0,.int .u8 0] 67)=W0 at*
 have HW:=aa hW
 clear hW
 have HA:=aa (fun W (hb:Below W0.heap.size W0 W)=>((h0.below hb).BW t.sv).mono (fun _ _ ⟨e,b⟩=>And.intro e (bt hb b)))
 have HD:=aa (fun W (hb:Below W0.heap.size W0 W)=>((h0.below hb).deadline t.sv).mono (fun _ _ ⟨e,b⟩=>And.intro e (bt hb b)))
 have HK:=aa (fun W (hb:Below W0.heap.size W0 W)=>(Ke.oQ W ((Cb.iC M.sv t.sv).d:Int)).mono (fun _ _ ⟨e,b⟩=>And.intro e (bt hb b)))
 have HS:=aa (fun W (hb:Below W0.heap.size W0 W)=>((h0.below hb).state t).mono (fun _ _ ⟨e,b⟩=>And.intro e (bt hb b)))
 have HG:=aa (fun W (hb:Below W0.heap.size W0 W)=>((h0.below hb).DQ t ht).mono (fun _ _ ⟨e,b⟩=>And.intro e (bt hb b)))
 have HF:=aa (fun l W (hb:Below W0.heap.size W0 W)=>(Ke.lh W l).mono (fun _ _ ⟨e,b⟩=>And.intro e (bt hb b)))
 have c6:=h0.co.c6
 have k5:=kt.c5
 have H0:=aa (Below.refl W0.heap.size W0)
 have HT:=aa (fun W (hb:Below W0.heap.size W0 W)=>And.intro (kt.low hb) (kn.kept hb))
 have hown:cB M n t=if 0<(Cb.iC M.sv t.sv).l then Ke.bQ ((Cb.iC M.sv t.sv).d:Int) else if dC M n t=1 then Ke.aW (bH M t) else if dC M n t=2 then Ke.aW (max (t.lv:Int) (t.lf:Int)) else Ke.aW (t.lv:Int):=rfl
 clear h0 kt kn ht
 generalize cB M n t=own at*
 generalize dC M n t=st at*
 generalize bH M t=ag at*
 generalize hsl:(Cb.iC M.sv t.sv).l=sl at*
 generalize (Cb.iC M.sv t.sv).d=sd at*
 by_cases hact:0<sl
 ·rw[if_pos hact] at hown
  subst hown
  have hd:decide (0<sl)=true:=decide_eq_true hact
  rw[hd] at HA
  go_enter Tryz.func78,Tryz.ntmps78
  go_wp2
  rw[HW.out]
  go_region_held3 (fun w'=>w'.cell? ⟨a.m,6,none⟩=some (.pointer (some ⟨a.sb,0,none⟩))∧w'.cell? ⟨w.heap.size,5,none⟩=some (.int .i64 t.sv))
   (first|exact⟨kc HB1.out c6,kc HB1.out k5⟩|go_keep)
   (first
    |(go_at_call 127;refine(HA.out _ (by exact bp H0.out rfl rfl rfl rfl)).mono ?_;rintro e w1 ⟨rfl,hb1⟩;have HB1:=aa hb1;clear hb1))
  go_wp2
  have d6:=kc HB1.out c6
  have d5:=kc HB1.out k5
  have HN:=aa (fun W hb=>(HT.out W hb).2)
  go_region_held3 (fun w'=>w'.cell? ⟨a.m,6,none⟩=some (.pointer (some ⟨a.sb,0,none⟩))∧w'.cell? ⟨w.heap.size,5,none⟩=some (.int .i64 t.sv))
   (first|exact⟨kc HB3.out c6,kc HB3.out k5⟩|exact⟨kc HB2.out c6,kc HB2.out k5⟩|go_keep)
   (first
    |(go_at_call 58;refine(HD.out _ (by exact bp HB1.out rfl rfl rfl rfl)).mono ?_;rintro e w2 ⟨rfl,hb2⟩;have HB2:=aa hb2;clear hb2)
    |(go_at_call 128;refine(HK.out _ (by exact bp HB2.out rfl rfl rfl rfl)).mono ?_;rintro e w3 ⟨rfl,hb3⟩;have HB3:=aa hb3;obtain⟨r0,r1,r2,f0,f1,f2⟩:=HN.out _ hb3;clear hb3))
  go_wp2
  simp[bodyPost,results,Tryz.results78,go_sem,r0,r1,r2]
  exact(dq (dq (dq (HBW.out.trans (HB3.out.mono HBW.out.size)) (by simp) _) (by simp) _) (by simp) _)
 ·rw[if_neg hact] at hown
  have hd:decide (0<sl)=false:=decide_eq_false hact
  rw[hd] at HA
  go_enter Tryz.func78,Tryz.ntmps78
  go_wp2
  rw[HW.out]
  go_region_held3 (fun w'=>w'.cell? ⟨a.m,6,none⟩=some (.pointer (some ⟨a.sb,0,none⟩))∧w'.cell? ⟨w.heap.size,5,none⟩=some (.int .i64 t.sv))
   (first|exact⟨kc HB1.out c6,kc HB1.out k5⟩|go_keep)
   (first
    |(go_at_call 127;refine(HA.out _ (by exact bp H0.out rfl rfl rfl rfl)).mono ?_;rintro e w1 ⟨rfl,hb1⟩;have HB1:=aa hb1;clear hb1))
  obtain⟨⟨d0,d1,d2,d3,d4,d5,d6,d7,d8,d9⟩,_⟩:=HT.out _ HB1.out
  by_cases h1:st=1
  ·rw[if_pos h1] at hown
   subst h1
   subst hown
   go_wp2_with (first
    |(go_at_call 54;refine(HS.out _ HB1.out).mono ?_;rintro e w2 ⟨rfl,hb2⟩;have HB2:=aa hb2;obtain⟨⟨d0,d1,d2,d3,d4,d5,d6,d7,d8,d9⟩,_⟩:=HT.out _ hb2;clear hb2)
    |(go_at_call 124;refine(HG.out _ HB2.out).mono ?_;rintro e w3 ⟨rfl,hb3⟩;have HB3:=aa hb3;clear hb3)
    |(go_at_call 30;refine(HF.out _ _ HB3.out).mono ?_;rintro e w4 ⟨rfl,hb4⟩;have HB4:=aa hb4;obtain⟨_,r0,r1,r2,f0,f1,f2⟩:=HT.out _ hb4;clear hb4))
   simp[bodyPost,results,Tryz.results78,go_sem,r0,r1,r2]
   exact dq (dq (dq (HBW.out.trans (HB4.out.mono HBW.out.size)) (by simp) _) (by simp) _) (by simp) _
  ·rw[if_neg h1] at hown
   have h1b:((st:Int)==1)=false:=by simp;omega
   by_cases h2:st=2
   ·rw[if_pos h2] at hown
    subst h2
    subst hown
    go_wp2_with (first
     |(go_at_call 54;refine(HS.out _ HB1.out).mono ?_;rintro e w2 ⟨rfl,hb2⟩;have HB2:=aa hb2;obtain⟨⟨d0,d1,d2,d3,d4,d5,d6,d7,d8,d9⟩,_⟩:=HT.out _ hb2;clear hb2)
     |(go_at_call 30;refine(HF.out _ _ HB2.out).mono ?_;rintro e w4 ⟨rfl,hb4⟩;have HB4:=aa hb4;obtain⟨_,r0,r1,r2,f0,f1,f2⟩:=HT.out _ hb4;clear hb4))
    simp[bodyPost,results,Tryz.results78,go_sem,r0,r1,r2]
    exact dq (dq (dq (HBW.out.trans (HB4.out.mono HBW.out.size)) (by simp) _) (by simp) _) (by simp) _
   ·rw[if_neg h2] at hown
    have h2b:((st:Int)==2)=false:=by simp;omega
    subst hown
    go_wp2_with (first
     |(go_at_call 54;refine(HS.out _ HB1.out).mono ?_;rintro e w2 ⟨rfl,hb2⟩;have HB2:=aa hb2;obtain⟨⟨d0,d1,d2,d3,d4,d5,d6,d7,d8,d9⟩,_⟩:=HT.out _ hb2;clear hb2)
     |(go_at_call 30;refine(HF.out _ _ HB2.out).mono ?_;rintro e w4 ⟨rfl,hb4⟩;have HB4:=aa hb4;obtain⟨_,r0,r1,r2,f0,f1,f2⟩:=HT.out _ hb4;clear hb4))
    simp[bodyPost,results,Tryz.results78,go_sem,r0,r1,r2]
    exact dq (dq (dq (HBW.out.trans (HB4.out.mono HBW.out.size)) (by simp) _) (by simp) _) (by simp) _
end
section
variable {w w':World} {lab:Nat→Nat} {a:Ad} {P n q T:Nat} {M:Mc}
theorem ax.fresh (h:ax w lab a P n q T M) {k:Nat} (hk:w.heap.size≤k):lab k=0:=by
 apply Classical.byContradiction
 intro e
 have:=h.lt k e
 omega
theorem Fr.keep (hf:Fr (fun k=>lab k≠0) w w') {b o:Nat} {u:Value} (hb:lab b=0) (c:w.cell? ⟨b,o,none⟩=some u):w'.cell? ⟨b,o,none⟩=some u:=
 (hf.cellAt (World.block_lt_of_cell? w _ c) (fun q=>q hb)).trans c
open Classical in
theorem ax.ET (h:ax w lab a P n q T M) {b:Nat} {O:Nat→Prop} {g:Pi.Md} (hO: ∀k,O k→lab k=7) (hs:Pi.Ei w w' b O a.gb g):az w w' lab a P n q T {M with gr:=g}:=by
 obtain⟨O',hp,hf,ho⟩:=hs
 have hf':Fr O w w':=ER hf
 have hL:mF w w' lab (fun k=>if O' k then 7 else lab k):=by
  refine⟨fun k hk=> ?_,fun k hk=> ?_⟩
  ·by_cases e:O' k
   ·rcases ho k e with q|q
    ·simp only[e,if_true];exact(hO k q).symm
    ·omega
   ·simp only[e,if_false]
  ·by_cases e:O' k
   ·exact hp.lt e
   ·simp only[e,if_false] at hk
    exact Nat.lt_of_lt_of_le (h.lt k hk) hf'.size
 have h7:Fr (fun k=>lab k=7) w w':=hf'.to (fun k _ hk=>hO k hk)
 refine⟨_,h.Es hL h7 hp (fun k hk=> ?_),hL,h7.to (fun k _ hk=> ?_)⟩
 ·simp only[hk,if_true]
 ·rw[hk];decide
theorem ax.base (h:ax w lab a P n q T M) (t:Int) (k:Ke.K) (hk:k.ok):
  Calls Tryz.prog 77 #[.pointer (some ⟨a.gb,0,none⟩),.int .i64 t,.agg #[.bool k.e,.int .u64 k.d,.int .u8 k.l]] w fun e w'=>(∃c:Int,e= .returned (.int .i64 c))∧az w w' lab a P n q T {M with gr:=(Pi.fh M.gr t k).2}:=by
 obtain⟨b,O,hp,hO⟩:=h.gr
 exact(hp.base t k hk).mono (fun _ _ ⟨e,hs⟩=>⟨⟨_,e⟩,h.ET hO hs⟩)
theorem ax.key (h:ax w lab a P n q T M) (t:Int):
  Calls Tryz.prog 55 #[.pointer (some ⟨a.gb,0,none⟩),.int .i64 t] w fun e w'=>e= .returned (.agg #[.bool (Pi.bu M.gr.T M.gr.L t).e,.int .u64 (Pi.bu M.gr.T M.gr.L t).d,.int .u8 (Pi.bu M.gr.T M.gr.L t).l])∧Below w.heap.size w w':=by
 obtain⟨b,O,hp,hO⟩:=h.gr
 exact hp.key t
theorem Ap {k k':Ke.K} (h:k.ok) (h':k'.ok):(Ke.dE k k').ok:=by unfold Ke.dE;split<;>assumption
theorem BN {T:List Pi.Th} {L:List Pi.Lk} (h: ∀x∈T,x.k.ok): ∀m t,(Pi.kf T L m t).ok
 |m,t=>by
  have h0:(Pi.fF T t).ok:=by
   unfold Pi.fF
   cases e:T[t]? with
   |none=>exact⟨⟨Int.le_refl 0,by show(0:Int)<_;decide⟩,Int.le_refl 0,by show(0:Int)<_;decide⟩
   |some x=>exact h x (List.mem_of_getElem? e)
  cases m with
  |zero=>exact h0
  |succ m=>
   unfold Pi.kf
   have: ∀(l:List Nat) (k:Ke.K),k.ok→(l.foldl (fun k x=>Ke.dE k (Pi.kf T L m x)) k).ok:=fun l=>by
    induction l with
    |nil=>exact fun k hk=>hk
    |cons x l ih=>exact fun k hk=>ih _ (Ap hk (BN h m x))
   exact this _ _ h0
theorem ax.iD (h:ax w lab a P n q T M) (t:Int):(Pi.bu M.gr.T M.gr.L t).ok:=by
 obtain⟨b,O,hp,hO⟩:=h.gr
 have hf:=hp.f
 have h0:(Ke.aW 0).ok:=⟨⟨Int.le_refl 0,by show(0:Int)<_;decide⟩,Int.le_refl 0,by show(0:Int)<_;decide⟩
 unfold Pi.bu
 split
 ·unfold Pi.keyOf
  split
  ·exact BN (fun x hx=>(hf.th x hx).1) _ _
  ·exact h0
 ·exact h0
theorem ax.change (h:ax w lab a P n q T M) (hT:T≤1000000000) (id:Nat) (hi:id<n) (k:Ke.K) (hk:k.ok):
  Calls Tryz.prog 79 #[.pointer (some ⟨a.pb,0,none⟩),.int .i64 (id:Int),.agg #[.bool k.e,.int .u64 k.d,.int .u8 k.l]] w fun e w'=>(∃c:Int,e= .returned (.int .i64 c))∧az w w' lab a P n q (T+1) {M with pl:=cH n (gh M.pl) (id:Int) k}:=by
 obtain⟨O,hp,hO⟩:=h.pl
 refine(hp.change hT (id:Int) (iM (by have:=h.hn;omega)) k hk).mono ?_
 rintro e w' ⟨rfl,hp',hf⟩
 have h8:Fr (fun k=>lab k=8) w w':=hf.to (fun k _ hk=>hO k hk)
 refine⟨⟨_,rfl⟩,lab,h.CH (h.same h8) h8 hp' hO,h.same h8,h8.to (fun k _ hk=> ?_)⟩
 rw[hk];decide
theorem ax.live (h:ax w lab a P n q T M):
  Calls Tryz.prog 53 #[.pointer (some ⟨a.tb,0,none⟩)] w fun e w'=> ∃v,e= .returned v∧w'.ownsRow w.heap.size 51 2 v (Gt.pl M.S false n n).length (Gt.bX M.G (Gt.pl M.S false n n))∧Below w.heap.size w w':=Gt.zs h.tb
def bV (M:Mc) (n:Nat):List Nat:=(Gt.pl M.S false n n).map (·.val)
theorem qG (M:Mc) (n:Nat): ∀x∈bV M n,x<n:=fun x hx=>by
 obtain⟨y,_,rfl⟩:=List.mem_map.1 hx
 exact y.isLt
theorem vK (M:Mc) (n:Nat):(bV M n).length≤n:=by unfold bV;rw[List.length_map];exact Gt.sC _ _ _ _
theorem lI (G:Nat→Nat) {n:Nat}: ∀(l:List (Fin n)) (j x:Nat),(l.map (·.val))[j]? =some x→(Gt.bX G l)[j*2]? =some (.int .i64 (x:Int))∧(Gt.bX G l)[j*2+1]? =some (.int .u32 (G x:Int))
 |[],j,x,h=>by simp at h
 |y::l,0,x,h=>by
  simp at h
  subst h
  exact⟨rfl,rfl⟩
 |y::l,j+1,x,h=>by
  have:=lI G l j x (by simpa using h)
  have e:Gt.bX G (y::l)= .int .i64 (y.val:Int):: .int .u32 (G y.val:Int)::Gt.bX G l:=rfl
  rw[e,show(j+1)*2=j*2+1+1 by omega]
  simpa using this
structure Lv (W:World) (lab:Nat→Nat) (ad:Option Addr) (l:List Nat) (G:Nat→Nat):Prop where
 at_: ∀(j x:Nat),l[j]? =some x→ ∃rb:Nat,ad=some ⟨rb,0,none⟩∧lab rb=0∧W.cell? ⟨rb,j*2,none⟩=some (.int .i64 (x:Int))∧W.cell? ⟨rb,j*2+1,none⟩=some (.int .u32 (G x:Int))
theorem Lv.of (h:ax w lab a P n q T M) {v:Value} (ho:w'.ownsRow w.heap.size 51 2 v (Gt.pl M.S false n n).length (Gt.bX M.G (Gt.pl M.S false n n))):
  ∃ad cap,v= .slice ad (bV M n).length cap∧Lv w' lab ad (bV M n) M.G:=by
 have el:(bV M n).length=(Gt.pl M.S false n n).length:=by unfold bV;rw[List.length_map]
 rw[el]
 have hl:=ho.1
 rcases ho with ⟨_,⟨hv,hz⟩|⟨g,cap,cells,hv,h3,h4,h5⟩⟩
 ·refine⟨none,0,by rw[hv,hz],⟨fun j x hx=> ?_⟩⟩
  have:=(List.getElem?_eq_some_iff.1 hx).1
  omega
 ·refine⟨some ⟨g,0,none⟩,cap,hv,⟨fun j x hx=>⟨g,rfl,h.fresh h3,?_⟩⟩⟩
  have hc: ∀(k:Nat) (u:Value),(Gt.bX M.G (Gt.pl M.S false n n))[k]? =some u→w'.cell? ⟨g,k,none⟩=some u:=fun k u hu=>by
   rw[←h5.2.2.2,List.getElem?_take] at hu
   split at hu
   ·simp only[World.cell?,h4]
    simpa using hu
   ·cases hu
  have:=lI M.G (Gt.pl M.S false n n) j x hx
  exact⟨hc _ _ this.1,hc _ _ this.2⟩
noncomputable def ff (n:Nat) (M:Mc) (g:Pi.Md) (x:Nat):Pi.Md:=(Pi.fh g (x:Int) (cB M n (M.th x))).2
noncomputable def fv (n:Nat) (M:Mc) (g:Pi.Md) (l:List (List En)) (x:Nat):List (List En):=if dC M n (M.th x)=1 then cH n (gh l) (x:Int) (Pi.bu g.T g.L (x:Int)) else l
noncomputable def gi (M:Mc) (n:Nat):Pi.Md:=(bV M n).foldl (ff n M) M.gr
noncomputable def settle (M:Mc) (n:Nat):Mc:={M with gr:=gi M n,pl:=(bV M n).foldl (fv n M (gi M n)) M.pl}
def xO (w1:World) (lab:Nat→Nat) (a:Ad) (P n q T:Nat) (M:Mc) (j:Nat) (wr:World):Prop:=az w1 wr lab a P n q T {M with gr:=((bV M n).take j).foldl (ff n M) M.gr}
def qk (w1:World) (lab:Nat→Nat) (a:Ad) (P n q T:Nat) (M:Mc) (j:Nat) (wr:World):Prop:=az w1 wr lab a P n q (T+j) {M with gr:=gi M n,pl:=((bV M n).take j).foldl (fv n M (gi M n)) M.pl}
theorem jY {α β:Type} (f:β→α→β) (b:β) {l:List α} {j:Nat} {x:α} (h:l[j]? =some x):(l.take (j+1)).foldl f b=f ((l.take j).foldl f b) x:=by
 rw[List.take_add_one,h,List.foldl_append];rfl
theorem pJ {α:Type} {l:List α} {j:Nat} (h:l.length≤j):l.take j=l:=List.take_of_length_le h
end
section
variable {w:World} {lab:Nat→Nat} {a:Ad} {P n q T:Nat} {M:Mc}
theorem ax.settle (h:ax w lab a P n q T M) (hT:T+n≤1000000000):
  Calls Tryz.prog 40 #[.pointer (some ⟨a.m,0,none⟩)] w fun e w'=>e= .returned (.tuple #[])∧az w w' lab a P n q (T+n) (Go.Proofs.YtjlbmmiomfpgiaaGreatDoor.settle M n):=by
 obtain⟨len,hlen⟩: ∃len,(bV M n).length=len:=⟨_,rfl⟩
 have hln:len≤n:=by rw[←hlen];exact vK M n
 have hn:=h.hn
 have HL:Hid (Calls Tryz.prog 53 #[.pointer (some ⟨a.tb,0,none⟩)] w fun e w'=> ∃ad cap,e= .returned (.slice ad len cap)∧Lv w' lab ad (bV M n) M.G∧ax w' lab a P n q T M∧Below w.heap.size w w'):=by
  refine h.live.mono ?_
  rintro e w' ⟨v,rfl,ho,hb⟩
  obtain⟨ad,cap,rfl,hlv⟩:=Lv.of h ho
  exact⟨ad,cap,by rw[hlen],hlv,h.below hb,hb⟩
 have HLEN:=aa hlen
 have c5:=h.co.c5
 have HH:=aa h
 clear h hlen
 go_enter Tryz.func40,Tryz.ntmps40
 go_wp2_with (first
  |(go_at_call 53;refine(HL.out).mono ?_;rintro e w1 ⟨ad,cap,rfl,hlv,hi,hb⟩;have HLV:=aa hlv;have HI:=aa hi;have HB:=aa hb;clear hlv hi hb))
 go_loopw [14] (fun iv wr=> ∃j:Nat,j≤len∧iv= .int .i64 (j:Int)∧xO w1 lab a P n q T M j wr) (fun iv _=>len-(intOf iv).toNat)
 case atStart=>exact⟨0,Nat.zero_le _,rfl,HI.out.goes⟩
 case round=>
  obtain⟨j,hj,rfl,hs⟩:=hrel
  by_cases hjl:j<len
  ·have hjl':(j:Int)<(len:Int):=by omega
   obtain⟨x,hx⟩: ∃x,(bV M n)[j]? =some x:=⟨(bV M n)[j]'(by rw[HLEN.out];exact hjl),List.getElem?_eq_getElem _⟩
   have hxn:x<n:=qG M n x (List.mem_of_getElem? hx)
   have hxn':(x:Int)<(n:Int):=by omega
   obtain⟨rb,rfl,hrl,e0,e1⟩:=HLV.out.at_ j x hx
   obtain⟨lab1,h1,hl1,hf1⟩:=hs
   have r0:=hf1.keep hrl e0
   have r1:=hf1.keep hrl e1
   have HX:=aa hx
   clear hrl e0 e1 hx
   obtain⟨t,ht⟩: ∃t,M.th x=t:=⟨_,rfl⟩
   have hbw:Below wr.heap.size wr (wr.alloc (.cells #[.int .i64 (x:Int),.int .u32 (M.G x:Int)] 51)):=(Below.refl _ _).alloc (Nat.le_refl _) _
   have h0:=h1.below hbw
   have k0:=aU wr #[.int .i64 (x:Int),.int .u32 (M.G x:Int)] 51 0 _ rfl
   have hnl:lab1 wr.heap.size=0:=h1.fresh (Nat.le_refl _)
   have HBW:=aa hbw
   have H1:=aa h1
   have HL1:=aa hl1
   have HF1:=aa hf1
   clear hbw h1 hl1 hf1
   generalize hW:wr.alloc (.cells #[.int .i64 (x:Int),.int .u32 (M.G x:Int)] 51)=W0 at*
   have HW:=aa hW
   clear hW
   have tok:t.ok:=by rw[←ht];exact h0.th.ok x hxn
   obtain⟨d0,d1,d2,d3,d4,d5,d6,d7,d8,d9⟩:aX W0 a.th (x*10) t:=by rw[←ht];exact h0.th.at_ x hxn
   have c4:=h0.co.c4
   have c7:=h0.co.c7
   have hok:=wU h0 t tok
   have HO:=aa (fun W (hb:Below W0.heap.size W0 W)=>((h0.below hb).own t tok).mono (fun _ _ ⟨e,b⟩=>And.intro e (bt hb b)))
   have HBS:Hid (∀W (hb:Below W0.heap.size W0 W),Calls Tryz.prog 77 #[.pointer (some ⟨a.gb,0,none⟩),.int .i64 (x:Int),.agg #[.bool (cB M n t).e,.int .u64 (cB M n t).d,.int .u8 (cB M n t).l]] W fun e w'=>(∃c:Int,e= .returned (.int .i64 c))∧xO w1 lab a P n q T M (j+1) w'∧(w'.cell? ⟨a.m,7,none⟩=some (.pointer (some ⟨a.gb,0,none⟩))∧w'.cell? ⟨a.m,4,none⟩=some (.slice (some ⟨a.th,0,none⟩) n a.xt)∧w'.cell? ⟨wr.heap.size,0,none⟩=some (.int .i64 (x:Int))∧w'.cell? ⟨a.th,x*10,none⟩=some (.int .i64 t.p)∧w'.cell? ⟨a.th,x*10+1,none⟩=some (.int .u32 (t.g:Int))∧w'.cell? ⟨a.th,x*10+2,none⟩=some (.int .i64 t.pg)∧w'.cell? ⟨a.th,x*10+3,none⟩=some (.int .u8 (t.lv:Int))∧w'.cell? ⟨a.th,x*10+4,none⟩=some (.int .u8 (t.lf:Int))∧w'.cell? ⟨a.th,x*10+5,none⟩=some (.int .i64 t.sv)∧w'.cell? ⟨a.th,x*10+6,none⟩=some (.int .i64 t.pc)∧w'.cell? ⟨a.th,x*10+7,none⟩=some (.int .i64 t.ia)∧w'.cell? ⟨a.th,x*10+8,none⟩=some (.int .i64 t.il)∧w'.cell? ⟨a.th,x*10+9,none⟩=some (.int .u64 (t.sn:Int)))):=fun W hb=>by
    refine((h0.below hb).base (x:Int) (cB M n t) hok.1).mono ?_
    rintro e w' ⟨hc,hg⟩
    have hg':=hg
    obtain⟨lab2,h2,hl2,hf2⟩:=hg
    refine⟨hc,?_,?_⟩
    ·unfold xO
     rw[jY _ _ HX.out]
     have hst:az W w' lab1 a P n q T {M with gr:=ff n M (((bV M n).take j).foldl (ff n M) M.gr) x}:=by
      unfold ff;rw[ht];exact hg'
     exact az.after HL1.out HF1.out (az.ahead (bt HBW.out hb) hst)
    ·obtain⟨g0,g1,g2,g3,g4,g5,g6,g7,g8,g9⟩:aX w' a.th (x*10) t:=by rw[←ht];exact h2.th.at_ x hxn
     exact⟨h2.co.c7,h2.co.c4,hf2.keep hnl (kc hb k0),g0,g1,g2,g3,g4,g5,g6,g7,g8,g9⟩
   clear h0 hok tok
   go_wp2
   rw[HW.out]
   have H0:=aa (Below.refl W0.heap.size W0)
   go_region_held3 (fun w'=>w'.cell? ⟨a.m,7,none⟩=some (.pointer (some ⟨a.gb,0,none⟩))∧w'.cell? ⟨a.m,4,none⟩=some (.slice (some ⟨a.th,0,none⟩) n a.xt)∧w'.cell? ⟨wr.heap.size,0,none⟩=some (.int .i64 (x:Int))∧w'.cell? ⟨a.th,x*10,none⟩=some (.int .i64 t.p)∧w'.cell? ⟨a.th,x*10+1,none⟩=some (.int .u32 (t.g:Int))∧w'.cell? ⟨a.th,x*10+2,none⟩=some (.int .i64 t.pg)∧w'.cell? ⟨a.th,x*10+3,none⟩=some (.int .u8 (t.lv:Int))∧w'.cell? ⟨a.th,x*10+4,none⟩=some (.int .u8 (t.lf:Int))∧w'.cell? ⟨a.th,x*10+5,none⟩=some (.int .i64 t.sv)∧w'.cell? ⟨a.th,x*10+6,none⟩=some (.int .i64 t.pc)∧w'.cell? ⟨a.th,x*10+7,none⟩=some (.int .i64 t.ia)∧w'.cell? ⟨a.th,x*10+8,none⟩=some (.int .i64 t.il)∧w'.cell? ⟨a.th,x*10+9,none⟩=some (.int .u64 (t.sn:Int)))
    (first|exact HS2.out|exact⟨kc HB1.out c7,kc HB1.out c4,kc HB1.out k0,kc HB1.out d0,kc HB1.out d1,kc HB1.out d2,kc HB1.out d3,kc HB1.out d4,kc HB1.out d5,kc HB1.out d6,kc HB1.out d7,kc HB1.out d8,kc HB1.out d9⟩|go_keep)
    (first
     |(go_at_call 78;refine(HO.out _ (by exact bp H0.out rfl rfl rfl rfl)).mono ?_;rintro e w2 ⟨rfl,hb1⟩;have HB1:=aa hb1;clear hb1)
     |(go_at_call 77;refine(HBS.out _ (by exact bp HB1.out rfl rfl rfl rfl)).mono ?_;rintro e w3 ⟨⟨c,rfl⟩,hs,hs2⟩;have HS:=aa hs;have HS2:=aa hs2;clear hs hs2))
   go_wp2
   go_roundw
   case rel=>exact⟨j+1,by omega,by go_num,HS.out⟩
   case measure=>simp[intOf];omega
  ·have hjl': ¬(j:Int)<(len:Int):=by omega
   have hjn:j=len:=by omega
   have HSB:Hid (qk w1 lab a P n q T M 0 wr):=by
    have hs':xO w1 lab a P n q T M j wr:=hs
    unfold xO at hs'
    rw[pJ (by rw[HLEN.out];omega)] at hs'
    exact hs'
   clear hs hjn
   go_wp2
   go_loopw [38] (fun iv wr=> ∃j:Nat,j≤len∧iv= .int .i64 (j:Int)∧qk w1 lab a P n q T M j wr) (fun iv _=>len-(intOf iv).toNat)
   case atStart=>exact⟨0,Nat.zero_le _,rfl,HSB.out⟩
   case round=>
    clear HSB
    obtain⟨j,hj,rfl,hs⟩:=hrel
    by_cases hjl:j<len
    ·have hjl':(j:Int)<(len:Int):=by omega
     obtain⟨x,hx⟩: ∃x,(bV M n)[j]? =some x:=⟨(bV M n)[j]'(by rw[HLEN.out];exact hjl),List.getElem?_eq_getElem _⟩
     have hxn:x<n:=qG M n x (List.mem_of_getElem? hx)
     have hxn':(x:Int)<(n:Int):=by omega
     obtain⟨rb,rfl,hrl,e0,e1⟩:=HLV.out.at_ j x hx
     obtain⟨lab1,h1,hl1,hf1⟩:=hs
     have r0:=hf1.keep hrl e0
     have r1:=hf1.keep hrl e1
     have HX:=aa hx
     clear hrl e0 e1 hx
     obtain⟨t,ht⟩: ∃t,M.th x=t:=⟨_,rfl⟩
     have hbw:Below wr.heap.size wr (wr.alloc (.cells #[.int .i64 (x:Int),.int .u32 (M.G x:Int)] 51)):=(Below.refl _ _).alloc (Nat.le_refl _) _
     have h0:=h1.below hbw
     have k0:=aU wr #[.int .i64 (x:Int),.int .u32 (M.G x:Int)] 51 0 _ rfl
     have hnl:lab1 wr.heap.size=0:=h1.fresh (Nat.le_refl _)
     have HBW:=aa hbw
     have HL1:=aa hl1
     have HF1:=aa hf1
     have H1:=aa h1
     clear hbw h1 hl1 hf1
     generalize hW:wr.alloc (.cells #[.int .i64 (x:Int),.int .u32 (M.G x:Int)] 51)=W0 at*
     have HW:=aa hW
     clear hW
     obtain⟨d0,d1,d2,d3,d4,d5,d6,d7,d8,d9⟩:aX W0 a.th (x*10) t:=by rw[←ht];exact h0.th.at_ x hxn
     have c4:=h0.co.c4
     have c7:=h0.co.c7
     have c8:=h0.co.c8
     have HS:Hid (∀W (hb:Below W0.heap.size W0 W),Calls Tryz.prog 54 #[.pointer (some ⟨a.m,0,none⟩),.agg #[.int .i64 t.p,.int .u32 (t.g:Int),.int .i64 t.pg,.int .u8 (t.lv:Int),.int .u8 (t.lf:Int),.int .i64 t.sv,.int .i64 t.pc,.int .i64 t.ia,.int .i64 t.il,.int .u64 (t.sn:Int)]] W fun e w'=>e= .returned (.int .i64 (dC M n t:Int))∧Below W0.heap.size W0 w'):=fun W hb=>((h0.below hb).state t).mono (fun _ _ ⟨e,b⟩=>And.intro e (bt hb b))
     obtain⟨k,hk⟩: ∃k,Pi.bu (gi M n).T (gi M n).L (x:Int)=k:=⟨_,rfl⟩
     have hkok:k.ok:=by rw[←hk];exact h0.iD (x:Int)
     have HK:Hid (∀W (hb:Below W0.heap.size W0 W),Calls Tryz.prog 55 #[.pointer (some ⟨a.gb,0,none⟩),.int .i64 (x:Int)] W fun e w'=>e= .returned (.agg #[.bool k.e,.int .u64 k.d,.int .u8 k.l])∧Below W0.heap.size W0 w'):=fun W hb=>by
      rw[←hk]
      exact((h0.below hb).key (x:Int)).mono (fun _ _ ⟨e,b⟩=>And.intro e (bt hb b))
     by_cases hst:dC M n t=1
     ·have HC:Hid (∀W (hb:Below W0.heap.size W0 W),Calls Tryz.prog 79 #[.pointer (some ⟨a.pb,0,none⟩),.int .i64 (x:Int),.agg #[.bool k.e,.int .u64 k.d,.int .u8 k.l]] W fun e w'=>(∃c:Int,e= .returned (.int .i64 c))∧qk w1 lab a P n q T M (j+1) w'∧(w'.cell? ⟨a.m,8,none⟩=some (.pointer (some ⟨a.pb,0,none⟩))∧w'.cell? ⟨a.m,7,none⟩=some (.pointer (some ⟨a.gb,0,none⟩))∧w'.cell? ⟨wr.heap.size,0,none⟩=some (.int .i64 (x:Int)))):=fun W hb=>by
       refine((h0.below hb).change (by omega) x hxn k hkok).mono ?_
       rintro e w' ⟨hc,hg⟩
       have hg':=hg
       obtain⟨lab2,h2,hl2,hf2⟩:=hg
       refine⟨hc,?_,h2.co.c8,h2.co.c7,hf2.keep hnl (kc hb k0)⟩
       unfold qk
       rw[jY _ _ HX.out]
       have hst':az W w' lab1 a P n q (T+(j+1)) {M with gr:=gi M n,pl:=fv n M (gi M n) (((bV M n).take j).foldl (fv n M (gi M n)) M.pl) x}:=by
        unfold fv;rw[ht,if_pos hst,hk];exact hg'
       exact az.after HL1.out HF1.out (az.ahead (bt HBW.out hb) hst')
      have hstb:((dC M n t:Int)==1)=true:=by simp;omega
      clear h0 hkok hk H1
      rw[hst] at HS
      clear hst hstb
      go_wp2
      rw[HW.out]
      have H0:=aa (Below.refl W0.heap.size W0)
      go_region_held3 (fun w'=>w'.cell? ⟨a.m,4,none⟩=some (.slice (some ⟨a.th,0,none⟩) n a.xt)∧w'.cell? ⟨wr.heap.size,0,none⟩=some (.int .i64 (x:Int))∧w'.cell? ⟨a.th,x*10,none⟩=some (.int .i64 t.p)∧w'.cell? ⟨a.th,x*10+1,none⟩=some (.int .u32 (t.g:Int))∧w'.cell? ⟨a.th,x*10+2,none⟩=some (.int .i64 t.pg)∧w'.cell? ⟨a.th,x*10+3,none⟩=some (.int .u8 (t.lv:Int))∧w'.cell? ⟨a.th,x*10+4,none⟩=some (.int .u8 (t.lf:Int))∧w'.cell? ⟨a.th,x*10+5,none⟩=some (.int .i64 t.sv)∧w'.cell? ⟨a.th,x*10+6,none⟩=some (.int .i64 t.pc)∧w'.cell? ⟨a.th,x*10+7,none⟩=some (.int .i64 t.ia)∧w'.cell? ⟨a.th,x*10+8,none⟩=some (.int .i64 t.il)∧w'.cell? ⟨a.th,x*10+9,none⟩=some (.int .u64 (t.sn:Int)))
       (first|exact⟨kc HB1.out c4,kc HB1.out k0,kc HB1.out d0,kc HB1.out d1,kc HB1.out d2,kc HB1.out d3,kc HB1.out d4,kc HB1.out d5,kc HB1.out d6,kc HB1.out d7,kc HB1.out d8,kc HB1.out d9⟩|go_keep)
       (first
        |(go_at_call 54;refine(HS.out _ (by exact bp H0.out rfl rfl rfl rfl)).mono ?_;rintro e w2 ⟨rfl,hb1⟩;have HB1:=aa hb1;clear hb1))
      have c8':=kc HB1.out c8
      have c7':=kc HB1.out c7
      have k0':=kc HB1.out k0
      go_wp2
      go_region_held3 (fun w'=>w'.cell? ⟨a.m,8,none⟩=some (.pointer (some ⟨a.pb,0,none⟩))∧w'.cell? ⟨a.m,7,none⟩=some (.pointer (some ⟨a.gb,0,none⟩))∧w'.cell? ⟨wr.heap.size,0,none⟩=some (.int .i64 (x:Int)))
       (first|exact HS2.out|exact⟨kc HB2.out c8,kc HB2.out c7,kc HB2.out k0⟩|go_keep)
       (first
        |(go_at_call 55;refine(HK.out _ (by exact bp HB1.out rfl rfl rfl rfl)).mono ?_;rintro e w3 ⟨rfl,hb2⟩;have HB2:=aa hb2;clear hb2)
        |(go_at_call 79;refine(HC.out _ (by exact bp HB2.out rfl rfl rfl rfl)).mono ?_;rintro e w4 ⟨⟨c,rfl⟩,hs,hs2⟩;have HSB:=aa hs;have HS2:=aa hs2;clear hs hs2))
      go_wp2
      go_roundw
      case rel=>exact⟨j+1,by omega,by go_num,HSB.out⟩
      case measure=>simp[intOf];omega
     ·have hstb:((dC M n t:Int)==1)=false:=by simp;omega
      have HC:Hid (∀W (hb:Below W0.heap.size W0 W),qk w1 lab a P n q T M (j+1) W):=fun W hb=>by
       unfold qk
       rw[jY _ _ HX.out]
       have hst':az W W lab1 a P n q (T+(j+1)) {M with gr:=gi M n,pl:=fv n M (gi M n) (((bV M n).take j).foldl (fv n M (gi M n)) M.pl) x}:=by
        unfold fv;rw[ht,if_neg hst];exact((h0.below hb).ki (by omega)).goes
       exact az.after HL1.out HF1.out (az.ahead (bt HBW.out hb) hst')
      clear h0 hkok hk H1 hst
      go_wp2
      rw[HW.out]
      have H0:=aa (Below.refl W0.heap.size W0)
      go_region_held3 (fun w'=>w'.cell? ⟨a.m,4,none⟩=some (.slice (some ⟨a.th,0,none⟩) n a.xt)∧w'.cell? ⟨wr.heap.size,0,none⟩=some (.int .i64 (x:Int))∧w'.cell? ⟨a.th,x*10,none⟩=some (.int .i64 t.p)∧w'.cell? ⟨a.th,x*10+1,none⟩=some (.int .u32 (t.g:Int))∧w'.cell? ⟨a.th,x*10+2,none⟩=some (.int .i64 t.pg)∧w'.cell? ⟨a.th,x*10+3,none⟩=some (.int .u8 (t.lv:Int))∧w'.cell? ⟨a.th,x*10+4,none⟩=some (.int .u8 (t.lf:Int))∧w'.cell? ⟨a.th,x*10+5,none⟩=some (.int .i64 t.sv)∧w'.cell? ⟨a.th,x*10+6,none⟩=some (.int .i64 t.pc)∧w'.cell? ⟨a.th,x*10+7,none⟩=some (.int .i64 t.ia)∧w'.cell? ⟨a.th,x*10+8,none⟩=some (.int .i64 t.il)∧w'.cell? ⟨a.th,x*10+9,none⟩=some (.int .u64 (t.sn:Int)))
       (first|exact⟨kc HB1.out c4,kc HB1.out k0,kc HB1.out d0,kc HB1.out d1,kc HB1.out d2,kc HB1.out d3,kc HB1.out d4,kc HB1.out d5,kc HB1.out d6,kc HB1.out d7,kc HB1.out d8,kc HB1.out d9⟩|go_keep)
       (first
        |(go_at_call 54;refine(HS.out _ (by exact bp H0.out rfl rfl rfl rfl)).mono ?_;rintro e w2 ⟨rfl,hb1⟩;have HB1:=aa hb1;clear hb1))
      go_wp2
      go_roundw
      case rel=>exact⟨j+1,by omega,by go_num,HC.out _ HB1.out⟩
      case measure=>simp[intOf];omega
    ·have hjl': ¬(j:Int)<(len:Int):=by omega
     have hjn:j=len:=by omega
     have HE:Hid (az w wr lab a P n q (T+n) (Go.Proofs.YtjlbmmiomfpgiaaGreatDoor.settle M n)):=by
      have hs':qk w1 lab a P n q T M j wr:=hs
      unfold qk at hs'
      rw[pJ (by rw[HLEN.out];omega)] at hs'
      exact az.ahead HB.out (hs'.ki (by omega))
     clear hs hjn
     go_wp2
     go_end0
     exact⟨rfl,HE.out⟩
end
section
variable {w w':World} {b o:Nat} {t:Tr}
theorem aI (w:World) {b o o':Nat} {u:Value} (h: ¬o'=o):(w.setCell ⟨b,o',none⟩ u).cell? ⟨b,o,none⟩=w.cell? ⟨b,o,none⟩:=Gt.ab _ _ _ _ _ _ (fun q=>h q.2)
theorem aX.fu (h:aX w b o t) {o':Nat} (ho:o'<o∨o+10≤o') (u:Value):aX (w.setCell ⟨b,o',none⟩ u) b o t:=
 ⟨(aI w (by omega)).trans h.c0,(aI w (by omega)).trans h.c1,(aI w (by omega)).trans h.c2,(aI w (by omega)).trans h.c3,(aI w (by omega)).trans h.c4,(aI w (by omega)).trans h.c5,(aI w (by omega)).trans h.c6,(aI w (by omega)).trans h.c7,(aI w (by omega)).trans h.c8,(aI w (by omega)).trans h.c9⟩
theorem aX.Bg (h:aX w b o t) (v:Int):aX (w.setCell ⟨b,o,none⟩ (.int .i64 v)) b o {t with p:=v}:=
 ⟨Gt.au _ _ _ _ h.c0,(aI w (by omega)).trans h.c1,(aI w (by omega)).trans h.c2,(aI w (by omega)).trans h.c3,(aI w (by omega)).trans h.c4,(aI w (by omega)).trans h.c5,(aI w (by omega)).trans h.c6,(aI w (by omega)).trans h.c7,(aI w (by omega)).trans h.c8,(aI w (by omega)).trans h.c9⟩
theorem aX.BJ (h:aX w b o t) (v:Nat):aX (w.setCell ⟨b,o+1,none⟩ (.int .u32 (v:Int))) b o {t with g:=v}:=
 ⟨(aI w (by omega)).trans h.c0,Gt.au _ _ _ _ h.c1,(aI w (by omega)).trans h.c2,(aI w (by omega)).trans h.c3,(aI w (by omega)).trans h.c4,(aI w (by omega)).trans h.c5,(aI w (by omega)).trans h.c6,(aI w (by omega)).trans h.c7,(aI w (by omega)).trans h.c8,(aI w (by omega)).trans h.c9⟩
theorem aX.Cn (h:aX w b o t) (v:Int):aX (w.setCell ⟨b,o+2,none⟩ (.int .i64 v)) b o {t with pg:=v}:=
 ⟨(aI w (by omega)).trans h.c0,(aI w (by omega)).trans h.c1,Gt.au _ _ _ _ h.c2,(aI w (by omega)).trans h.c3,(aI w (by omega)).trans h.c4,(aI w (by omega)).trans h.c5,(aI w (by omega)).trans h.c6,(aI w (by omega)).trans h.c7,(aI w (by omega)).trans h.c8,(aI w (by omega)).trans h.c9⟩
theorem aX.CO (h:aX w b o t) (v:Nat):aX (w.setCell ⟨b,o+3,none⟩ (.int .u8 (v:Int))) b o {t with lv:=v}:=
 ⟨(aI w (by omega)).trans h.c0,(aI w (by omega)).trans h.c1,(aI w (by omega)).trans h.c2,Gt.au _ _ _ _ h.c3,(aI w (by omega)).trans h.c4,(aI w (by omega)).trans h.c5,(aI w (by omega)).trans h.c6,(aI w (by omega)).trans h.c7,(aI w (by omega)).trans h.c8,(aI w (by omega)).trans h.c9⟩
theorem aX.rQ (h:aX w b o t) (v:Nat):aX (w.setCell ⟨b,o+4,none⟩ (.int .u8 (v:Int))) b o {t with lf:=v}:=
 ⟨(aI w (by omega)).trans h.c0,(aI w (by omega)).trans h.c1,(aI w (by omega)).trans h.c2,(aI w (by omega)).trans h.c3,Gt.au _ _ _ _ h.c4,(aI w (by omega)).trans h.c5,(aI w (by omega)).trans h.c6,(aI w (by omega)).trans h.c7,(aI w (by omega)).trans h.c8,(aI w (by omega)).trans h.c9⟩
theorem aX.BR (h:aX w b o t) (v:Int):aX (w.setCell ⟨b,o+5,none⟩ (.int .i64 v)) b o {t with sv:=v}:=
 ⟨(aI w (by omega)).trans h.c0,(aI w (by omega)).trans h.c1,(aI w (by omega)).trans h.c2,(aI w (by omega)).trans h.c3,(aI w (by omega)).trans h.c4,Gt.au _ _ _ _ h.c5,(aI w (by omega)).trans h.c6,(aI w (by omega)).trans h.c7,(aI w (by omega)).trans h.c8,(aI w (by omega)).trans h.c9⟩
theorem aX.xZ (h:aX w b o t) (v:Int):aX (w.setCell ⟨b,o+6,none⟩ (.int .i64 v)) b o {t with pc:=v}:=
 ⟨(aI w (by omega)).trans h.c0,(aI w (by omega)).trans h.c1,(aI w (by omega)).trans h.c2,(aI w (by omega)).trans h.c3,(aI w (by omega)).trans h.c4,(aI w (by omega)).trans h.c5,Gt.au _ _ _ _ h.c6,(aI w (by omega)).trans h.c7,(aI w (by omega)).trans h.c8,(aI w (by omega)).trans h.c9⟩
theorem aX.xB (h:aX w b o t) (v:Int):aX (w.setCell ⟨b,o+7,none⟩ (.int .i64 v)) b o {t with ia:=v}:=
 ⟨(aI w (by omega)).trans h.c0,(aI w (by omega)).trans h.c1,(aI w (by omega)).trans h.c2,(aI w (by omega)).trans h.c3,(aI w (by omega)).trans h.c4,(aI w (by omega)).trans h.c5,(aI w (by omega)).trans h.c6,Gt.au _ _ _ _ h.c7,(aI w (by omega)).trans h.c8,(aI w (by omega)).trans h.c9⟩
theorem aX.x5 (h:aX w b o t) (v:Int):aX (w.setCell ⟨b,o+8,none⟩ (.int .i64 v)) b o {t with il:=v}:=
 ⟨(aI w (by omega)).trans h.c0,(aI w (by omega)).trans h.c1,(aI w (by omega)).trans h.c2,(aI w (by omega)).trans h.c3,(aI w (by omega)).trans h.c4,(aI w (by omega)).trans h.c5,(aI w (by omega)).trans h.c6,(aI w (by omega)).trans h.c7,Gt.au _ _ _ _ h.c8,(aI w (by omega)).trans h.c9⟩
theorem aX.ym (h:aX w b o t) (v:Nat):aX (w.setCell ⟨b,o+9,none⟩ (.int .u64 (v:Int))) b o {t with sn:=v}:=
 ⟨(aI w (by omega)).trans h.c0,(aI w (by omega)).trans h.c1,(aI w (by omega)).trans h.c2,(aI w (by omega)).trans h.c3,(aI w (by omega)).trans h.c4,(aI w (by omega)).trans h.c5,(aI w (by omega)).trans h.c6,(aI w (by omega)).trans h.c7,(aI w (by omega)).trans h.c8,Gt.au _ _ _ _ h.c9⟩
end
section
variable {w w':World} {lab:Nat→Nat} {a:Ad} {P n q T:Nat} {M:Mc}
theorem zq.put {b:Nat} {f:Nat→Tr} (h:zq w b n f) {x:Nat} {t:Tr} (ht:aX w' b (x*10) t) (hok:t.ok) (hfar: ∀j,j<n→j≠x→aX w' b (j*10) (f j)) (hfz: ∀o,w'.frozen? ⟨b,o,none⟩=false):zq w' b n (Gt.aw f x t):=by
 refine⟨fun i hi=> ?_,hfz,fun i hi=> ?_⟩
 ·by_cases e:i=x
  ·rw[e,Gt.aj];exact ht
  ·rw[Gt.af _ _ _ _ e];exact hfar i hi e
 ·by_cases e:i=x
  ·rw[e,Gt.aj];exact hok
  ·rw[Gt.af _ _ _ _ e];exact h.ok i hi
theorem nJ {x j i:Nat} (h:j≠x) (hi:i<10):x*10+i<j*10∨j*10+10≤x*10+i:=by omega
theorem aN (w:World) (a:Addr) (u:Value) (p:Addr):(w.setCell a u).frozen? p=w.frozen? p:=World.frozen?_setCell _ _ _ _
theorem ax.lu (h:ax w lab a P n q T M) {x:Nat} (hx:x<n) (s:Nat) (hs:s<18446744073709551616) (l:Nat) (hl:l<256):
  az w ((w.setCell ⟨a.th,x*10+9,none⟩ (.int .u64 (s:Int))).setCell ⟨a.th,x*10+4,none⟩ (.int .u8 (l:Int))) lab a P n q T {M with th:=Gt.aw M.th x {M.th x with sn:=s,lf:=l}}:=by
 have ok:=h.th.ok x hx
 have hf:Fr (fun k=>lab k=4) w ((w.setCell ⟨a.th,x*10+9,none⟩ (.int .u64 (s:Int))).setCell ⟨a.th,x*10+4,none⟩ (.int .u8 (l:Int))):=((Fr.refl _ _).setCell (a:=⟨a.th,_,none⟩) h.lth _).setCell (a:=⟨a.th,_,none⟩) h.lth _
 refine⟨lab,h.zF (h.same hf) hf (h.th.put (((h.th.at_ x hx).ym s).rQ l) ⟨ok.g,ok.lv,hl,ok.il,hs⟩ (fun j hj hne=>((h.th.at_ j hj).fu (nJ hne (by decide)) _).fu (nJ hne (by decide)) _) (fun o=>by rw[aN,aN];exact h.th.fz o)),h.same hf,hf.to (fun k _ hk=> ?_)⟩
 rw[hk];decide
def dp (n:Nat) (G S:Nat→Nat) (p:Int) (g s:Nat):Nat→Nat:=if Gt.hasB n G S p g=true∧Gt.lA (S p.toNat) s=true then Gt.aw S p.toNat s else S
theorem ax.move (h:ax w lab a P n q T M) (p:Int) (g s:Nat):
  Calls Tryz.prog 89 #[.pointer (some ⟨a.tb,0,none⟩),.agg #[.int .i64 p,.int .u32 (g:Int)],.int .i64 (s:Int)] w fun e w'=>(∃c:Int,e= .returned (.int .i64 c))∧az w w' lab a P n q T {M with S:=dp n M.G M.S p g s}:=by
 cases hh:Gt.hasB n M.G M.S p g with
 |false=>
  refine(Gt.uM h.tb p (s:Int) g hh).mono ?_
  rintro e w' ⟨rfl,hb⟩
  refine⟨⟨_,rfl⟩,?_⟩
  unfold dp
  rw[if_neg (by rw[hh];simp)]
  exact h.stay hb
 |true=>
  obtain⟨x,rfl,h1,h2,h3⟩:=Gt.nh hh
  cases hm:Gt.lA (M.S x) s with
  |false=>
   refine(Gt.ru h.tb h.t0 x g (s:Int) h1 h2 h3 hm).mono ?_
   rintro e w' ⟨rfl,hb⟩
   refine⟨⟨_,rfl⟩,?_⟩
   unfold dp
   rw[if_neg (by rw[Int.toNat_natCast,hm];simp)]
   exact h.stay hb
  |true=>
   refine(Gt.uC h.tb h.t0 x g s h1 h2 h3 hm).mono ?_
   rintro e w' ⟨rfl,hr,hf⟩
   refine⟨⟨_,rfl⟩,?_⟩
   unfold dp
   rw[if_pos ⟨hh,by rw[Int.toNat_natCast,hm]⟩,Int.toNat_natCast]
   have h5:Fr (fun k=>lab k=5) w w':=(Dl hf).to (fun k _ hk=>by rw[hk];exact h.ltb.2)
   exact⟨lab,h.BB (h.same h5) h5 hr,h.same h5,h5.to (fun k _ hk=>by rw[hk];decide)⟩
theorem ax.C5 (h:ax w lab a P n q T M) (i:Int) (now:Nat) (hn:now<18446744073709551616):
  Calls Tryz.prog 90 #[.pointer (some ⟨a.sb,0,none⟩),.int .i64 i,.int .u64 (now:Int)] w fun e w'=>(∃c:Int,e= .returned (.int .i64 c))∧az w w' lab a P n q T {M with sv:=Cb.jC M.sv i now}:=by
 obtain⟨base,v,hp,hv⟩:=h.sv
 rcases Cb.jP M.sv i with ⟨e1,e2⟩|⟨k,x,rfl,hx⟩
 ·refine(Cb.rO hp i now e2).mono ?_
  rintro e w' ⟨rfl,rfl⟩
  refine⟨⟨_,rfl⟩,?_⟩
  unfold Cb.jC
  rw[if_neg (by rw[e1];simp)]
  exact h.goes
 ·have e1:=Cb.lO hx
  by_cases hd:x.d≤now
  ·refine(Cb.wv hp k now x hx hd hn).mono ?_
   rintro e w' ⟨rfl,hr,hf⟩
   refine⟨⟨_,rfl⟩,?_⟩
   unfold Cb.jC
   rw[e1.1,if_pos ⟨e1.2,hd⟩,Int.toNat_natCast]
   have h6:Fr (fun k=>lab k=6) w w':=(zN hf).to (fun k _ hk=>hv k hk.symm)
   exact⟨lab,h.tw (h.same h6) h6 hr hv,h.same h6,h6.to (fun k _ hk=>by rw[hk];decide)⟩
  ·refine(Cb.yd hp k now x hx hd).mono ?_
   rintro e w' ⟨rfl,hb⟩
   refine⟨⟨_,rfl⟩,?_⟩
   unfold Cb.jC
   rw[e1.1,if_neg (fun q=>hd q.2)]
   exact h.stay hb
theorem ax.put (h:ax w lab a P n q T M) (hT:T≤1000000000) (p id:Int) (k:Ke.K) (hk:k.ok):
  Calls Tryz.prog 91 #[.pointer (some ⟨a.pb,0,none⟩),.int .i64 p,.int .i64 id,.agg #[.bool k.e,.int .u64 k.d,.int .u8 k.l]] w fun e w'=>(∃c:Int,e= .returned (.int .i64 c))∧az w w' lab a P n q (T+1) {M with pl:=dM P n q (gh M.pl) p id k}:=by
 obtain⟨O,hp,hO⟩:=h.pl
 refine(hp.put hT p id k hk).mono ?_
 rintro e w' ⟨rfl,hp',hf⟩
 have h8:Fr (fun k=>lab k=8) w w':=hf.to (fun k _ hk=>hO k hk)
 exact⟨⟨_,rfl⟩,lab,h.CH (h.same h8) h8 hp' hO,h.same h8,h8.to (fun k _ hk=>by rw[hk];decide)⟩
noncomputable def bS (n:Nat) (M:Mc) (x:Nat):Mc:={M with S:=dp n M.G M.S (M.th x).p (M.th x).g 1,th:=Gt.aw M.th x {M.th x with sn:=M.nw,lf:=0}}
noncomputable def bn (n:Nat) (M:Mc) (x:Nat):Mc:=if dC M n (M.th x)=2 then bS n M x else{bS n M x with sv:=Cb.jC M.sv (M.th x).sv M.nw}
noncomputable def bJ (n:Nat) (M:Mc) (x:Nat):Mc:=settle (bn n M x) n
noncomputable def ready (P n q:Nat) (M:Mc) (x:Nat) (proc:Int):Mc:={bJ n M x with pl:=dM P n q (gh (bJ n M x).pl) proc (x:Int) (Pi.bu (bJ n M x).gr.T (bJ n M x).gr.L (x:Int))}
end
section
variable {w W W':World} {lab:Nat→Nat} {a:Ad} {P n q T:Nat} {M:Mc}
theorem gp (h:az w W lab a P n q T M) (e1:W'.heap=W.heap) (e2:W'.os=W.os) (e3:W'.tape=W.tape) (e4:W'.output=W.output):az w W' lab a P n q T M:=
 h.more (ak (Below.refl _ _) e1 e2 e3 e4)
theorem az.core (h:az w W lab a P n q T M):Core W a P n M.qu M.ag:=h.elim fun _ q=>q.1.co
theorem az.tr (h:az w W lab a P n q T M) {x:Nat} (hx:x<n):aX W a.th (x*10) (M.th x):=h.elim fun _ q=>q.1.th.at_ x hx
theorem az.AH (h:az w W lab a P n q T M) (o:Nat):W.frozen? ⟨a.th,o,none⟩=false:=h.elim fun _ q=>q.1.th.fz o
theorem az.Dh (h:az w W lab a P n q T M):M.nw<18446744073709551616:=h.elim fun _ q=>q.1.Dh
theorem az.size (h:az w W lab a P n q T M):w.heap.size≤W.heap.size:=h.elim fun _ q=>q.2.2.size
theorem az.iD (h:az w W lab a P n q T M) (t:Int):(Pi.bu M.gr.T M.gr.L t).ok:=h.elim fun _ q=>q.1.iD t
theorem az.state (h:az w W lab a P n q T M) (t:Tr):
  Calls Tryz.prog 54 #[.pointer (some ⟨a.m,0,none⟩),.agg #[.int .i64 t.p,.int .u32 (t.g:Int),.int .i64 t.pg,.int .u8 (t.lv:Int),.int .u8 (t.lf:Int),.int .i64 t.sv,.int .i64 t.pc,.int .i64 t.ia,.int .i64 t.il,.int .u64 (t.sn:Int)]] W fun e w'=>e= .returned (.int .i64 (dC M n t:Int))∧az w w' lab a P n q T M:=by
 obtain⟨l1,i1,b1,f1⟩:=id h
 exact(i1.state t).mono (fun _ _ ⟨e,b⟩=>⟨e,h.more b⟩)
theorem az.now (h:az w W lab a P n q T M):
  Calls Tryz.prog 22 #[.pointer (some ⟨a.m,0,none⟩)] W fun e w'=>e= .returned (.int .u64 (M.nw:Int))∧w'=W:=by
 obtain⟨l1,i1,b1,f1⟩:=id h
 exact i1.now
theorem az.D3 (h:az w W lab a P n q T M):
  Calls Tryz.prog 22 #[.pointer (some ⟨a.m,0,none⟩)] W fun e w'=>e= .returned (.int .u64 (M.nw:Int))∧az w w' lab a P n q T M:=
 h.now.mono (fun _ _ ⟨e,b⟩=>⟨e,by rw[b];exact h⟩)
theorem az.key (h:az w W lab a P n q T M) (t:Int):
  Calls Tryz.prog 55 #[.pointer (some ⟨a.gb,0,none⟩),.int .i64 t] W fun e w'=>e= .returned (.agg #[.bool (Pi.bu M.gr.T M.gr.L t).e,.int .u64 (Pi.bu M.gr.T M.gr.L t).d,.int .u8 (Pi.bu M.gr.T M.gr.L t).l])∧az w w' lab a P n q T M:=by
 obtain⟨l1,i1,b1,f1⟩:=id h
 exact(i1.key t).mono (fun _ _ ⟨e,b⟩=>⟨e,h.more b⟩)
theorem az.move (h:az w W lab a P n q T M) (p:Int) (g s:Nat):
  Calls Tryz.prog 89 #[.pointer (some ⟨a.tb,0,none⟩),.agg #[.int .i64 p,.int .u32 (g:Int)],.int .i64 (s:Int)] W fun e w'=>(∃c:Int,e= .returned (.int .i64 c))∧az w w' lab a P n q T {M with S:=dp n M.G M.S p g s}:=by
 obtain⟨l1,i1,b1,f1⟩:=id h
 exact(i1.move p g s).mono (fun _ _ ⟨e,b⟩=>⟨e,az.after b1 f1 b⟩)
theorem az.C5 (h:az w W lab a P n q T M) (i:Int) (now:Nat) (hn:now<18446744073709551616):
  Calls Tryz.prog 90 #[.pointer (some ⟨a.sb,0,none⟩),.int .i64 i,.int .u64 (now:Int)] W fun e w'=>(∃c:Int,e= .returned (.int .i64 c))∧az w w' lab a P n q T {M with sv:=Cb.jC M.sv i now}:=by
 obtain⟨l1,i1,b1,f1⟩:=id h
 exact(i1.C5 i now hn).mono (fun _ _ ⟨e,b⟩=>⟨e,az.after b1 f1 b⟩)
theorem az.put (h:az w W lab a P n q T M) (hT:T≤1000000000) (p id:Int) (k:Ke.K) (hk:k.ok):
  Calls Tryz.prog 91 #[.pointer (some ⟨a.pb,0,none⟩),.int .i64 p,.int .i64 id,.agg #[.bool k.e,.int .u64 k.d,.int .u8 k.l]] W fun e w'=>(∃c:Int,e= .returned (.int .i64 c))∧az w w' lab a P n q (T+1) {M with pl:=dM P n q (gh M.pl) p id k}:=by
 obtain⟨l1,i1,b1,f1⟩:=h
 exact(i1.put hT p id k hk).mono (fun _ _ ⟨e,b⟩=>⟨e,az.after b1 f1 b⟩)
theorem az.settle (h:az w W lab a P n q T M) (hT:T+n≤1000000000):
  Calls Tryz.prog 40 #[.pointer (some ⟨a.m,0,none⟩)] W fun e w'=>e= .returned (.tuple #[])∧az w w' lab a P n q (T+n) (Go.Proofs.YtjlbmmiomfpgiaaGreatDoor.settle M n):=by
 obtain⟨l1,i1,b1,f1⟩:=h
 exact(i1.settle hT).mono (fun _ _ ⟨e,b⟩=>⟨e,az.after b1 f1 b⟩)
theorem az.lu (h:az w W lab a P n q T M) {x:Nat} (hx:x<n) (s:Nat) (hs:s<18446744073709551616) (l:Nat) (hl:l<256):
  az w ((W.setCell ⟨a.th,x*10+9,none⟩ (.int .u64 (s:Int))).setCell ⟨a.th,x*10+4,none⟩ (.int .u8 (l:Int))) lab a P n q T {M with th:=Gt.aw M.th x {M.th x with sn:=s,lf:=l}}:=by
 obtain⟨l1,i1,b1,f1⟩:=h
 exact az.after b1 f1 (i1.lu hx s hs l hl)
theorem az.ready (h:az w W lab a P n q T M) (hT:T+n≤1000000000) (x:Nat) (hx:x<n) (proc:Int):
  Calls Tryz.prog 46 #[.pointer (some ⟨a.m,0,none⟩),.int .i64 (x:Int),.int .i64 proc] W fun e w'=>e= .returned (.tuple #[])∧az w w' lab a P n q (T+n+1) (Go.Proofs.YtjlbmmiomfpgiaaGreatDoor.ready P n q M x proc):=by
 obtain⟨t,ht⟩: ∃t,M.th x=t:=⟨_,rfl⟩
 have hx':(x:Int)<(n:Int):=by omega
 obtain⟨d0,d1,d2,d3,d4,d5,d6,d7,d8,d9⟩:aX W a.th (x*10) t:=by rw[←ht];exact h.tr hx
 have c4:=h.core.c4
 have hnw:=h.Dh
 have H0:=aa h
 have HS:=aa (fun W (h:az w W lab a P n q T M)=>h.state t)
 have HM:Hid (∀W (h:az w W lab a P n q T M),Calls Tryz.prog 89 #[.pointer (some ⟨a.tb,0,none⟩),.agg #[.int .i64 t.p,.int .u32 (t.g:Int)],.int .i64 1] W fun e w'=>(∃c:Int,e= .returned (.int .i64 c))∧az w w' lab a P n q T {M with S:=dp n M.G M.S t.p t.g 1}):=fun W h=>h.move t.p t.g 1
 have HR1:Hid (∀W,az w W lab a P n q T {M with S:=dp n M.G M.S t.p t.g 1}→az w ((W.setCell ⟨a.th,x*10+9,none⟩ (.int .u64 (M.nw:Int))).setCell ⟨a.th,x*10+4,none⟩ (.int .u8 0)) lab a P n q T (bS n M x)):=fun W h=>by
  have:=h.lu hx M.nw hnw 0 (by decide)
  unfold bS
  rw[ht]
  rw[←ht] at this
  rw[←ht]
  exact this
 clear h
 have HTT:Hid (∀W (h:az w W lab a P n q T M),W.cell? ⟨a.th,x*10,none⟩=some (.int .i64 t.p)∧W.cell? ⟨a.th,x*10+1,none⟩=some (.int .u32 (t.g:Int))):=fun W h=>by rw[←ht];exact⟨(h.tr hx).c0,(h.tr hx).c1⟩
 by_cases hst:dC M n t=2
 ·have hstb:((dC M n t:Int) !=2)=false:=by simp;omega
  have e2:bn n M x=bS n M x:=by unfold bn;rw[ht,if_pos hst]
  have HST:Hid (∀W (h:az w W lab a P n q T (bn n M x)),Calls Tryz.prog 40 #[.pointer (some ⟨a.m,0,none⟩)] W fun e w'=>e= .returned (.tuple #[])∧az w w' lab a P n q (T+n) (bJ n M x)):=fun W h=>h.settle hT
  obtain⟨k,hk⟩: ∃k,Pi.bu (bJ n M x).gr.T (bJ n M x).gr.L (x:Int)=k:=⟨_,rfl⟩
  have HK:Hid (∀W (h:az w W lab a P n q (T+n) (bJ n M x)),Calls Tryz.prog 55 #[.pointer (some ⟨a.gb,0,none⟩),.int .i64 (x:Int)] W fun e w'=>e= .returned (.agg #[.bool k.e,.int .u64 k.d,.int .u8 k.l])∧az w w' lab a P n q (T+n) (bJ n M x)):=fun W h=>by
   rw[←hk];exact h.key (x:Int)
  have HP:Hid (∀W (h:az w W lab a P n q (T+n) (bJ n M x)),Calls Tryz.prog 91 #[.pointer (some ⟨a.pb,0,none⟩),.int .i64 proc,.int .i64 (x:Int),.agg #[.bool k.e,.int .u64 k.d,.int .u8 k.l]] W fun e w'=>(∃c:Int,e= .returned (.int .i64 c))∧az w w' lab a P n q (T+n+1) (Go.Proofs.YtjlbmmiomfpgiaaGreatDoor.ready P n q M x proc)):=fun W h=>by
   unfold Go.Proofs.YtjlbmmiomfpgiaaGreatDoor.ready
   have hok:=h.iD (x:Int)
   rw[hk] at hok⊢
   exact h.put hT proc (x:Int) k hok
  have HFT:Hid (∀W,az w W lab a P n q T {M with S:=dp n M.G M.S t.p t.g 1}→aX W a.th (x*10) t∧ ∀o,W.frozen? ⟨a.th,o,none⟩=false):=fun W h=>⟨by rw[←ht];exact h.tr hx,h.AH⟩
  have HFR:Hid (∀W,az w W lab a P n q T (bS n M x)→W.cell? ⟨a.th,x*10+5,none⟩=some (.int .i64 t.sv)):=fun W h=>by
   have:=(h.tr hx).c5
   unfold bS at this
   simp only[Gt.aj] at this
   rw[ht] at this
   exact this
  have HNW:Hid (∀W,az w W lab a P n q T {M with S:=dp n M.G M.S t.p t.g 1}→Calls Tryz.prog 22 #[.pointer (some ⟨a.m,0,none⟩)] W fun e w'=>e= .returned (.int .u64 (M.nw:Int))∧w'=W):=fun W h=>h.now
  have HNV:Hid (∀W,az w W lab a P n q T (bS n M x)→Calls Tryz.prog 22 #[.pointer (some ⟨a.m,0,none⟩)] W fun e w'=>e= .returned (.int .u64 (M.nw:Int))∧az w w' lab a P n q T (bS n M x)):=fun W h=>h.D3
  clear ht hst hnw hk
  rw[e2] at HST
  clear e2
  go_enter Tryz.func46,Tryz.ntmps46
  go_wp2_with (first
   |(go_at_call 54;refine(HS.out _ H0.out).mono ?_;rintro e w1 ⟨rfl,hg⟩;have HG1:=aa hg;clear hg))
  have c5:=HG1.out.core.c5
  have HT1:=aa (fun W (h:az w W lab a P n q T M)=>h.tr hx)
  clear d0 d1 d2 d3 d4 d5 d6 d7 d8 d9
  obtain⟨d0,d1⟩:w1.cell? ⟨a.th,x*10,none⟩=some (.int .i64 t.p)∧w1.cell? ⟨a.th,x*10+1,none⟩=some (.int .u32 (t.g:Int)):=HTT.out _ HG1.out
  go_region_held3 (fun w'=>w'.cell? ⟨a.m,5,none⟩=some (.pointer (some ⟨a.tb,0,none⟩))∧w'.cell? ⟨a.th,x*10,none⟩=some (.int .i64 t.p)∧w'.cell? ⟨a.th,x*10+1,none⟩=some (.int .u32 (t.g:Int)))
   (first|exact⟨HG2.out.core.c5,e0,e1⟩|go_keep)
   (first
    |(go_at_call 89;refine(HM.out _ (by exact gp HG1.out rfl rfl rfl rfl)).mono ?_;rintro e w2 ⟨⟨c,rfl⟩,hg⟩;have HG2:=aa hg;clear hg;obtain⟨⟨e0,e1,e2,e3,e4,e5,e6,e7,e8,e9⟩,fz⟩:=HFT.out _ HG2.out))
  go_upto_region 4 with (first
   |(go_at_call 22;refine(HNW.out _ HG2.out).mono ?_;rintro e w3 ⟨rfl,hw⟩;replace hw:=hw.symm;subst hw))
  have HG3:=aa (HR1.out _ HG2.out)
  clear e0 e1 e2 e3 e4 e5 e6 e7 e8 e9 fz
  generalize (w2.setCell ⟨a.th,x*10+9,none⟩ (.int .u64 (M.nw:Int))).setCell ⟨a.th,x*10+4,none⟩ (.int .u8 0)=w3 at*
  clear c4 c5 d0 d1
  go_upto_region 7 with (first
   |(go_at_call 40;refine(HST.out _ (by exact gp HG3.out rfl rfl rfl rfl)).mono ?_;rintro e w6 ⟨rfl,hg⟩;have HG6:=aa hg;clear hg))
  have c8:=HG6.out.core.c8
  have c7:=HG6.out.core.c7
  go_region_held3 (fun w'=>w'.cell? ⟨a.m,8,none⟩=some (.pointer (some ⟨a.pb,0,none⟩))∧w'.cell? ⟨a.m,7,none⟩=some (.pointer (some ⟨a.gb,0,none⟩)))
   (first|exact⟨HG8.out.core.c8,HG8.out.core.c7⟩|exact⟨HG7.out.core.c8,HG7.out.core.c7⟩|go_keep)
   (first
    |(go_at_call 55;refine(HK.out _ (by exact gp HG6.out rfl rfl rfl rfl)).mono ?_;rintro e w7 ⟨rfl,hg⟩;have HG7:=aa hg;clear hg)
    |(go_at_call 91;refine(HP.out _ (by exact gp HG7.out rfl rfl rfl rfl)).mono ?_;rintro e w8 ⟨⟨c,rfl⟩,hg⟩;have HG8:=aa hg;clear hg))
  go_wp2
  go_end0
  exact⟨rfl,HG8.out⟩
 ·have HFV:Hid (∀W,az w W lab a P n q T (bn n M x)→W.cell? ⟨a.th,x*10+5,none⟩=some (.int .i64 t.sv)):=fun W h=>by
   have:=(h.tr hx).c5
   have e:(bn n M x).th x={t with sn:=M.nw,lf:=0}:=by unfold bn bS;split<;>simp only[Gt.aj]<;>rw[ht]
   rw[e] at this
   exact this
  have hstb:((dC M n t:Int) !=2)=true:=by simp;omega
  have e2:bn n M x={bS n M x with sv:=Cb.jC M.sv t.sv M.nw}:=by unfold bn;rw[ht,if_neg hst]
  have HWK:Hid (∀W (h:az w W lab a P n q T (bS n M x)),Calls Tryz.prog 90 #[.pointer (some ⟨a.sb,0,none⟩),.int .i64 t.sv,.int .u64 (M.nw:Int)] W fun e w'=>(∃c:Int,e= .returned (.int .i64 c))∧az w w' lab a P n q T (bn n M x)):=fun W h=>by
   rw[e2];exact h.C5 t.sv M.nw hnw
  have HST:Hid (∀W (h:az w W lab a P n q T (bn n M x)),Calls Tryz.prog 40 #[.pointer (some ⟨a.m,0,none⟩)] W fun e w'=>e= .returned (.tuple #[])∧az w w' lab a P n q (T+n) (bJ n M x)):=fun W h=>h.settle hT
  obtain⟨k,hk⟩: ∃k,Pi.bu (bJ n M x).gr.T (bJ n M x).gr.L (x:Int)=k:=⟨_,rfl⟩
  have HK:Hid (∀W (h:az w W lab a P n q (T+n) (bJ n M x)),Calls Tryz.prog 55 #[.pointer (some ⟨a.gb,0,none⟩),.int .i64 (x:Int)] W fun e w'=>e= .returned (.agg #[.bool k.e,.int .u64 k.d,.int .u8 k.l])∧az w w' lab a P n q (T+n) (bJ n M x)):=fun W h=>by
   rw[←hk];exact h.key (x:Int)
  have HP:Hid (∀W (h:az w W lab a P n q (T+n) (bJ n M x)),Calls Tryz.prog 91 #[.pointer (some ⟨a.pb,0,none⟩),.int .i64 proc,.int .i64 (x:Int),.agg #[.bool k.e,.int .u64 k.d,.int .u8 k.l]] W fun e w'=>(∃c:Int,e= .returned (.int .i64 c))∧az w w' lab a P n q (T+n+1) (Go.Proofs.YtjlbmmiomfpgiaaGreatDoor.ready P n q M x proc)):=fun W h=>by
   unfold Go.Proofs.YtjlbmmiomfpgiaaGreatDoor.ready
   have hok:=h.iD (x:Int)
   rw[hk] at hok⊢
   exact h.put hT proc (x:Int) k hok
  have HFT:Hid (∀W,az w W lab a P n q T {M with S:=dp n M.G M.S t.p t.g 1}→aX W a.th (x*10) t∧ ∀o,W.frozen? ⟨a.th,o,none⟩=false):=fun W h=>⟨by rw[←ht];exact h.tr hx,h.AH⟩
  have HFR:Hid (∀W,az w W lab a P n q T (bS n M x)→W.cell? ⟨a.th,x*10+5,none⟩=some (.int .i64 t.sv)):=fun W h=>by
   have:=(h.tr hx).c5
   unfold bS at this
   simp only[Gt.aj] at this
   rw[ht] at this
   exact this
  have HNW:Hid (∀W,az w W lab a P n q T {M with S:=dp n M.G M.S t.p t.g 1}→Calls Tryz.prog 22 #[.pointer (some ⟨a.m,0,none⟩)] W fun e w'=>e= .returned (.int .u64 (M.nw:Int))∧w'=W):=fun W h=>h.now
  have HNV:Hid (∀W,az w W lab a P n q T (bS n M x)→Calls Tryz.prog 22 #[.pointer (some ⟨a.m,0,none⟩)] W fun e w'=>e= .returned (.int .u64 (M.nw:Int))∧az w w' lab a P n q T (bS n M x)):=fun W h=>h.D3
  clear ht hst hnw hk
  clear e2
  go_enter Tryz.func46,Tryz.ntmps46
  go_wp2_with (first
   |(go_at_call 54;refine(HS.out _ H0.out).mono ?_;rintro e w1 ⟨rfl,hg⟩;have HG1:=aa hg;clear hg))
  have c5:=HG1.out.core.c5
  have HT1:=aa (fun W (h:az w W lab a P n q T M)=>h.tr hx)
  clear d0 d1 d2 d3 d4 d5 d6 d7 d8 d9
  obtain⟨d0,d1⟩:w1.cell? ⟨a.th,x*10,none⟩=some (.int .i64 t.p)∧w1.cell? ⟨a.th,x*10+1,none⟩=some (.int .u32 (t.g:Int)):=HTT.out _ HG1.out
  go_region_held3 (fun w'=>w'.cell? ⟨a.m,5,none⟩=some (.pointer (some ⟨a.tb,0,none⟩))∧w'.cell? ⟨a.th,x*10,none⟩=some (.int .i64 t.p)∧w'.cell? ⟨a.th,x*10+1,none⟩=some (.int .u32 (t.g:Int)))
   (first|exact⟨HG2.out.core.c5,e0,e1⟩|go_keep)
   (first
    |(go_at_call 89;refine(HM.out _ (by exact gp HG1.out rfl rfl rfl rfl)).mono ?_;rintro e w2 ⟨⟨c,rfl⟩,hg⟩;have HG2:=aa hg;clear hg;obtain⟨⟨e0,e1,e2,e3,e4,e5,e6,e7,e8,e9⟩,fz⟩:=HFT.out _ HG2.out))
  go_upto_region 4 with (first
   |(go_at_call 22;refine(HNW.out _ HG2.out).mono ?_;rintro e w3 ⟨rfl,hw⟩;replace hw:=hw.symm;subst hw))
  have HG3:=aa (HR1.out _ HG2.out)
  clear e0 e1 e2 e3 e4 e5 e6 e7 e8 e9 fz
  generalize (w2.setCell ⟨a.th,x*10+9,none⟩ (.int .u64 (M.nw:Int))).setCell ⟨a.th,x*10+4,none⟩ (.int .u8 0)=w3 at*
  clear c4 c5 d0 d1
  go_upto_region 5 with fail
  have c6:=HG3.out.core.c6
  have k5:=HFR.out _ HG3.out
  go_region_held3 (fun w'=>w'.cell? ⟨a.m,6,none⟩=some (.pointer (some ⟨a.sb,0,none⟩))∧w'.cell? ⟨a.th,x*10+5,none⟩=some (.int .i64 t.sv))
   (first|exact⟨HG5.out.core.c6,HFV.out _ HG5.out⟩|exact⟨HG4.out.core.c6,HFR.out _ HG4.out⟩|go_keep)
   (first
    |(go_at_call 22;refine(HNV.out _ (by exact gp HG3.out rfl rfl rfl rfl)).mono ?_;rintro e w4 ⟨rfl,hg⟩;have HG4:=aa hg;clear hg)
    |(go_at_call 90;refine(HWK.out _ (by exact gp HG4.out rfl rfl rfl rfl)).mono ?_;rintro e w5 ⟨⟨c,rfl⟩,hg⟩;have HG5:=aa hg;clear hg))
  clear c6 k5
  go_upto_region 7 with (first
   |(go_at_call 40;refine(HST.out _ (by exact gp HG5.out rfl rfl rfl rfl)).mono ?_;rintro e w6 ⟨rfl,hg⟩;have HG6:=aa hg;clear hg))
  have c8:=HG6.out.core.c8
  have c7:=HG6.out.core.c7
  go_region_held3 (fun w'=>w'.cell? ⟨a.m,8,none⟩=some (.pointer (some ⟨a.pb,0,none⟩))∧w'.cell? ⟨a.m,7,none⟩=some (.pointer (some ⟨a.gb,0,none⟩)))
   (first|exact⟨HG8.out.core.c8,HG8.out.core.c7⟩|exact⟨HG7.out.core.c8,HG7.out.core.c7⟩|go_keep)
   (first
    |(go_at_call 55;refine(HK.out _ (by exact gp HG6.out rfl rfl rfl rfl)).mono ?_;rintro e w7 ⟨rfl,hg⟩;have HG7:=aa hg;clear hg)
    |(go_at_call 91;refine(HP.out _ (by exact gp HG7.out rfl rfl rfl rfl)).mono ?_;rintro e w8 ⟨⟨c,rfl⟩,hg⟩;have HG8:=aa hg;clear hg))
  go_wp2
  go_end0
  exact⟨rfl,HG8.out⟩
end
structure At (w W:World) (lab labk:Nat→Nat) (a:Ad) (P n q T:Nat) (M:Mc):Prop where
 i:ax W labk a P n q T M
 l:mF w W lab labk
 f:Fr (fun k=>lab k≠0) w W
 z:0<w.heap.size
section
variable {w W W':World} {lab labk:Nat→Nat} {a:Ad} {P n q T T':Nat} {M M':Mc}
theorem At.goes (h:At w W lab labk a P n q T M):az w W lab a P n q T M:=⟨labk,h.i,h.l,h.f⟩
theorem ax.EF (h:ax w lab a P n q T M):At w w lab lab a P n q T M:=⟨h,⟨fun _ _=>rfl,h.lt⟩,Fr.refl _ _,h.t0.pos⟩
theorem az.open (h:az w W lab a P n q T M) (hz:0<w.heap.size): ∃labk,At w W lab labk a P n q T M:=h.elim fun l q=>⟨l,q.1,q.2.1,q.2.2,hz⟩
theorem At.step (h:At w W lab labk a P n q T M) (g:az W W' labk a P n q T' M'): ∃lab',At w W' lab lab' a P n q T' M'∧(∀b,b<W.heap.size→lab' b=labk b)∧Fr (fun k=>labk k≠0) W W':=by
 obtain⟨l2,i2,b2,f2⟩:=g
 exact⟨l2,⟨i2,h.l.then b2 h.f.size,h.f.then f2 (fun k hk hn=>by rw[←h.l.old k hk];exact hn),h.z⟩,b2.old,f2⟩
theorem At.below (h:At w W lab labk a P n q T M) (hb:Below W.heap.size W W'):At w W' lab labk a P n q T M:=
 ⟨h.i.below hb,⟨h.l.old,fun k hk=>Nat.lt_of_lt_of_le (h.l.lt k hk) hb.size⟩,h.f.then (dc (S:=fun _=>False) hb) (fun _ _ q=>q.elim),h.z⟩
theorem At.new (h:At w W lab labk a P n q T M) (o:Obj):At w (W.alloc o) lab labk a P n q T M:=h.below ((Below.refl _ _).alloc (Nat.le_refl _) _)
theorem At.fresh (h:At w W lab labk a P n q T M) {k:Nat} (hk:W.heap.size≤k):labk k=0:=h.i.fresh hk
theorem At.eI (h:At w W lab labk a P n q T M) (e1:W'.heap=W.heap) (e2:W'.os=W.os) (e3:W'.tape=W.tape) (e4:W'.output=W.output):At w W' lab labk a P n q T M:=
 h.below (ak (Below.refl _ _) e1 e2 e3 e4)
theorem At.drew (h:At w W lab labk a P n q T M):At w W.drew lab labk a P n q T M:=h.eI rfl rfl rfl rfl
theorem wF (w:World) (k:Nat):w.drew.heap[k]? =w.heap[k]? :=rfl
theorem At.set (h:At w W lab labk a P n q T M) {b:Nat} (hb:w.heap.size≤b) (hl:labk b=0) (o:Nat) (u:Value):At w (W.setCell ⟨b,o,none⟩ u) lab labk a P n q T M:=by
 have hpos:=h.z
 have hf:Fr (fun k=>k=b) W (W.setCell ⟨b,o,none⟩ u):=(Fr.refl (fun k=>k=b) W).setCell (a:=⟨b,o,none⟩) rfl _
 refine⟨h.i.frame hf (fun k hk e=>hk (by rw[e];exact hl)) (by omega),⟨h.l.old,fun k hk=>by simpa using h.l.lt k hk⟩,h.f.then hf (fun k hk e=>by omega),h.z⟩
theorem Fr.box {w W:World} {lab:Nat→Nat} (hf:Fr (fun k=>lab k≠0) w W) {b:Nat} (hl:lab b=0) (hb:b<w.heap.size):W.heap[b]? =w.heap[b]? :=hf.block b hb (fun q=>q hl)
def cj (M:Mc) (n:Nat):Option Nat:=((Gt.pl M.S true n n).head?).map (·.val)
def dh (M:Mc) (x:Nat):Mc:={M with G:=Gt.aw M.G x (M.G x+1),S:=Gt.aw M.S x 1}
def Ea (M:Mc) (n:Nat):Prop:= ∀x,x<n→M.G x+1<4294967296
theorem nO {x:Nat} (h:cj M n=some x):x<n:=by
 unfold cj at h
 obtain⟨y,_,rfl⟩:=Option.map_eq_some_iff.1 h
 exact y.isLt
theorem ax.alloc (h:ax w lab a P n q T M) (hG:Ea M n):
  Calls Tryz.prog 94 #[.pointer (some ⟨a.tb,0,none⟩)] w fun e w'=>
   (∃x,cj M n=some x∧e= .returned (.tuple #[.agg #[.int .i64 (x:Int),.int .u32 ((M.G x+1:Nat):Int)],.int .i64 0])∧az w w' lab a P n q T (dh M x))∨
   (cj M n=none∧e= .returned (.tuple #[.agg #[.int .i64 0,.int .u32 0],.int .i64 4])∧Below w.heap.size w w'):=by
 refine(callsIn_wide.1 (Gt.vY a.tb a.tg n M.G M.S w h.tb hG)).mono ?_
 rintro e w' (⟨x,hx,rfl,hr,hf⟩|⟨hx,rfl,hb⟩)
 ·refine .inl ⟨x.val,?_,rfl,?_⟩
  ·obtain⟨l,hl⟩:=hx
   unfold cj
   rw[←hl]
   rfl
  ·have h5:Fr (fun k=>lab k=5) w w':=(Dl hf).to (fun k _ hk=>by rw[hk];exact h.ltb.2)
   exact⟨lab,h.BB (h.same h5) h5 hr,h.same h5,h5.to (fun k _ hk=>by rw[hk];decide)⟩
 ·refine .inr ⟨?_,rfl,hb⟩
  unfold cj
  rw[hx]
  rfl
theorem ax.DB (h:ax w lab a P n q T M) {x:Nat} (hx:x<n) (t:Tr) (hok:t.ok) (ht:aX W a.th (x*10) t) (hf:Fr (fun k=>k=a.th) w W) (hfar: ∀j,j<n→j≠x→aX W a.th (j*10) (M.th j)) (hfz: ∀o,W.frozen? ⟨a.th,o,none⟩=false):ax W lab a P n q T {M with th:=Gt.aw M.th x t}:=by
 have h4:Fr (fun k=>lab k=4) w W:=hf.to (fun k _ hk=>by rw[hk];exact h.lth)
 exact h.zF (h.same h4) h4 (h.th.put ht hok hfar hfz)
def jG (w:World) (b o:Nat) (t:Tr):World:=((((((((((w.setCell ⟨b,o,none⟩ (.int .i64 t.p)).setCell ⟨b,o+1,none⟩ (.int .u32 (t.g:Int))).setCell ⟨b,o+2,none⟩ (.int .i64 t.pg)).setCell ⟨b,o+3,none⟩ (.int .u8 (t.lv:Int))).setCell ⟨b,o+4,none⟩ (.int .u8 (t.lf:Int))).setCell ⟨b,o+5,none⟩ (.int .i64 t.sv)).setCell ⟨b,o+6,none⟩ (.int .i64 t.pc)).setCell ⟨b,o+7,none⟩ (.int .i64 t.ia)).setCell ⟨b,o+8,none⟩ (.int .i64 t.il)).setCell ⟨b,o+9,none⟩ (.int .u64 (t.sn:Int)))
theorem CD {b o:Nat} {t0:Tr} (h:aX w b o t0) (t:Tr):aX (jG w b o t) b o t:=((((((((((h.Bg t.p).BJ t.g).Cn t.pg).CO t.lv).rQ t.lf).BR t.sv).xZ t.pc).xB t.ia).x5 t.il).ym t.sn)
theorem xx (w:World) (b o:Nat) (t:Tr):Fr (fun k=>k=b) w (jG w b o t):=by
 unfold jG
 exact((((((((((Fr.refl (fun k=>k=b) w).setCell (a:=⟨b,o,none⟩) rfl _).setCell (a:=⟨b,o+1,none⟩) rfl _).setCell (a:=⟨b,o+2,none⟩) rfl _).setCell (a:=⟨b,o+3,none⟩) rfl _).setCell (a:=⟨b,o+4,none⟩) rfl _).setCell (a:=⟨b,o+5,none⟩) rfl _).setCell (a:=⟨b,o+6,none⟩) rfl _).setCell (a:=⟨b,o+7,none⟩) rfl _).setCell (a:=⟨b,o+8,none⟩) rfl _).setCell (a:=⟨b,o+9,none⟩) rfl _
theorem zW (w:World) (b o:Nat) (t:Tr) (k:Nat) (hk:k≠b):(jG w b o t).heap[k]? =w.heap[k]? :=by
 unfold jG
 exact(Below.heap_setCell _ _ _ _ hk).trans ((Below.heap_setCell _ _ _ _ hk).trans ((Below.heap_setCell _ _ _ _ hk).trans ((Below.heap_setCell _ _ _ _ hk).trans ((Below.heap_setCell _ _ _ _ hk).trans ((Below.heap_setCell _ _ _ _ hk).trans ((Below.heap_setCell _ _ _ _ hk).trans ((Below.heap_setCell _ _ _ _ hk).trans ((Below.heap_setCell _ _ _ _ hk).trans ((Below.heap_setCell _ _ _ _ hk))))))))))
theorem zT {b o o':Nat} {t t':Tr} (h:aX w b o t) (ho:o'+10≤o∨o+10≤o'):aX (jG w b o' t') b o t:=by
 unfold jG
 exact((((((((((h.fu (by omega) _).fu (by omega) _).fu (by omega) _).fu (by omega) _).fu (by omega) _).fu (by omega) _).fu (by omega) _).fu (by omega) _).fu (by omega) _).fu (by omega) _)
theorem Cy {b o:Nat} {t:Tr} (h: ∀o,w.frozen? ⟨b,o,none⟩=false): ∀o',(jG w b o t).frozen? ⟨b,o',none⟩=false:=fun o'=>by
 unfold jG
 simp only[aN]
 exact h o'
theorem ax.EB (h:ax w lab a P n q T M) {x:Nat} (hx:x<n) (t:Tr) (hok:t.ok):ax (jG w a.th (x*10) t) lab a P n q T {M with th:=Gt.aw M.th x t}:=
 h.DB hx t hok (CD (h.th.at_ x hx) t) (xx _ _ _ _) (fun j hj hne=>zT (h.th.at_ j hj) (by omega)) (Cy h.th.fz)
theorem At.EB (h:At w W lab labk a P n q T M) {x:Nat} (hx:x<n) (t:Tr) (hok:t.ok):At w (Go.Proofs.YtjlbmmiomfpgiaaGreatDoor.jG W a.th (x*10) t) lab labk a P n q T {M with th:=Gt.aw M.th x t}:=by
 have hf:=xx W a.th (x*10) t
 refine⟨h.i.EB hx t hok,⟨h.l.old,fun k hk=>Nat.lt_of_lt_of_le (h.l.lt k hk) hf.size⟩,h.f.then hf (fun k hk e=> ?_),h.z⟩
 rw[←h.l.old k hk,e,h.i.lth];decide
end
structure Ev where
 k:Int
 p:Int
 x:Int
 g:Nat
 r:Int
 e:Int
structure jJ (w:World) (b:Nat) (v:Ev):Prop where
 c0:w.cell? ⟨b,0,none⟩=some (.int .i64 v.k)
 c1:w.cell? ⟨b,1,none⟩=some (.int .i64 v.p)
 c2:w.cell? ⟨b,2,none⟩=some (.int .i64 v.x)
 c3:w.cell? ⟨b,3,none⟩=some (.int .u32 (v.g:Int))
 c4:w.cell? ⟨b,4,none⟩=some (.int .i64 v.r)
 c5:w.cell? ⟨b,5,none⟩=some (.int .i64 v.e)
 fz: ∀o,w.frozen? ⟨b,o,none⟩=false
theorem jJ.kept {w w':World} {b:Nat} {v:Ev} (h:jJ w b v) (hb:w'.heap[b]? =w.heap[b]?):jJ w' b v:=
 have e: ∀o,w'.cell? ⟨b,o,none⟩=w.cell? ⟨b,o,none⟩:=fun _=>World.cell?_of_block hb
 ⟨(e _).trans h.c0,(e _).trans h.c1,(e _).trans h.c2,(e _).trans h.c3,(e _).trans h.c4,(e _).trans h.c5,fun o=>(World.frozen?_of_block hb).trans (h.fz o)⟩
theorem jJ.lt {w:World} {b:Nat} {v:Ev} (h:jJ w b v):b<w.heap.size:=World.block_lt_of_cell? w _ h.c0
theorem jJ.new (w:World):jJ (w.alloc (.cells #[.int .i64 0,.int .i64 0,.int .i64 0,.int .u32 0,.int .i64 0,.int .i64 0] 75)) w.heap.size ⟨0,0,0,0,0,0⟩:=
 ⟨aU _ _ _ 0 _ rfl,aU _ _ _ 1 _ rfl,aU _ _ _ 2 _ rfl,aU _ _ _ 3 _ rfl,aU _ _ _ 4 _ rfl,aU _ _ _ 5 _ rfl,fun o=>Gt.aF _ _ _ _⟩
structure jZ (w:World) (b:Nat) (t:Tr):Prop where
 c:aX w b 0 t
 fz: ∀o,w.frozen? ⟨b,o,none⟩=false
theorem jZ.kept {w w':World} {b:Nat} {t:Tr} (h:jZ w b t) (hb:w'.heap[b]? =w.heap[b]?):jZ w' b t:=⟨h.c.kept hb,fun o=>(World.frozen?_of_block hb).trans (h.fz o)⟩
theorem jZ.lt {w:World} {b:Nat} {t:Tr} (h:jZ w b t):b<w.heap.size:=World.block_lt_of_cell? w _ h.c.c0
theorem jZ.new (w:World) (t:Tr):jZ (w.alloc (.cells #[.int .i64 t.p,.int .u32 (t.g:Int),.int .i64 t.pg,.int .u8 (t.lv:Int),.int .u8 (t.lf:Int),.int .i64 t.sv,.int .i64 t.pc,.int .i64 t.ia,.int .i64 t.il,.int .u64 (t.sn:Int)] 111)) w.heap.size t:=⟨aX.new w t,fun o=>Gt.aF _ _ _ _⟩
noncomputable def fp (P n q:Nat) (M:Mc) (x:Nat) (proc:Int) (t:Tr):Mc:=ready P n q {dh M x with th:=Gt.aw M.th x {t with p:=(x:Int),g:=M.G x+1}} x proc
section
variable {w W W':World} {lab labk:Nat→Nat} {a:Ad} {P n q T T':Nat} {M M':Mc}
theorem ax.vk (h:ax w lab a P n q T M) (hT:T+n≤1000000000) (hG:Ea M n) (proc:Int) (t:Tr) (tok:t.ok) (x:Nat) (hf:cj M n=some x):
  Calls Tryz.prog 51 #[.pointer (some ⟨a.m,0,none⟩),.int .i64 proc,.agg #[.int .i64 t.p,.int .u32 (t.g:Int),.int .i64 t.pg,.int .u8 (t.lv:Int),.int .u8 (t.lf:Int),.int .i64 t.sv,.int .i64 t.pc,.int .i64 t.ia,.int .i64 t.il,.int .u64 (t.sn:Int)]] w fun e w'=>e= .returned (.tuple #[.agg #[.int .i64 9,.int .i64 proc,.int .i64 (x:Int),.int .u32 ((M.G x+1:Nat):Int),.int .i64 t.pg,.int .i64 0],.int .i64 0])∧az w w' lab a P n q (T+n+1) (fp P n q M x proc t):=by
 have hx:=nO hf
 have hx':(x:Int)<(n:Int):=by omega
 have hgx:=hG x hx
 obtain⟨g,hg⟩: ∃g,M.G x+1=g:=⟨_,rfl⟩
 have hbw1:Below w.heap.size w (w.alloc (.cells #[.int .i64 t.p,.int .u32 (t.g:Int),.int .i64 t.pg,.int .u8 (t.lv:Int),.int .u8 (t.lf:Int),.int .i64 t.sv,.int .i64 t.pc,.int .i64 t.ia,.int .i64 t.il,.int .u64 (t.sn:Int)] 111)):=(Below.refl _ _).alloc (Nat.le_refl _) _
 have hbw:Below w.heap.size w ((w.alloc (.cells #[.int .i64 t.p,.int .u32 (t.g:Int),.int .i64 t.pg,.int .u8 (t.lv:Int),.int .u8 (t.lf:Int),.int .i64 t.sv,.int .i64 t.pc,.int .i64 t.ia,.int .i64 t.il,.int .u64 (t.sn:Int)] 111)).alloc (.cells #[.int .i64 0,.int .i64 0,.int .i64 0,.int .u32 0,.int .i64 0,.int .i64 0] 75)):=hbw1.alloc (by simp) _
 have A0:=h.EF.below hbw
 have kb:jZ ((w.alloc (.cells #[.int .i64 t.p,.int .u32 (t.g:Int),.int .i64 t.pg,.int .u8 (t.lv:Int),.int .u8 (t.lf:Int),.int .i64 t.sv,.int .i64 t.pc,.int .i64 t.ia,.int .i64 t.il,.int .u64 (t.sn:Int)] 111)).alloc (.cells #[.int .i64 0,.int .i64 0,.int .i64 0,.int .u32 0,.int .i64 0,.int .i64 0] 75)) w.heap.size t:=(jZ.new w t).kept (((Below.refl _ _).alloc (Nat.le_refl _) _).block _ (jZ.new w t).lt)
 have ke:=jJ.new (w.alloc (.cells #[.int .i64 t.p,.int .u32 (t.g:Int),.int .i64 t.pg,.int .u8 (t.lv:Int),.int .u8 (t.lf:Int),.int .i64 t.sv,.int .i64 t.pc,.int .i64 t.ia,.int .i64 t.il,.int .u64 (t.sn:Int)] 111))
 rw[show(w.alloc (.cells #[.int .i64 t.p,.int .u32 (t.g:Int),.int .i64 t.pg,.int .u8 (t.lv:Int),.int .u8 (t.lf:Int),.int .i64 t.sv,.int .i64 t.pc,.int .i64 t.ia,.int .i64 t.il,.int .u64 (t.sn:Int)] 111)).heap.size=w.heap.size+1 by simp] at ke
 have hl0:lab w.heap.size=0:=h.fresh (Nat.le_refl _)
 have hl1:lab (w.heap.size+1)=0:=h.fresh (by omega)
 clear h hbw hbw1
 generalize hW:(w.alloc (.cells #[.int .i64 t.p,.int .u32 (t.g:Int),.int .i64 t.pg,.int .u8 (t.lv:Int),.int .u8 (t.lf:Int),.int .i64 t.sv,.int .i64 t.pc,.int .i64 t.ia,.int .i64 t.il,.int .u64 (t.sn:Int)] 111)).alloc (.cells #[.int .i64 0,.int .i64 0,.int .i64 0,.int .u32 0,.int .i64 0,.int .i64 0] 75)=W0 at*
 have HW:=aa hW
 clear hW
 have c5:=A0.i.co.c5
 have HAL:Hid (Calls Tryz.prog 94 #[.pointer (some ⟨a.tb,0,none⟩)] W0 fun e w'=>e= .returned (.tuple #[.agg #[.int .i64 (x:Int),.int .u32 (g:Int)],.int .i64 0])∧ ∃lab1,At w w' lab lab1 a P n q T (dh M x)∧lab1 w.heap.size=0∧lab1 (w.heap.size+1)=0∧jZ w' w.heap.size t∧jJ w' (w.heap.size+1) ⟨0,0,0,0,0,0⟩):=by
  refine(A0.i.alloc hG).mono ?_
  rintro e w' (⟨y,hy,rfl,hgo⟩|⟨hy,_⟩)
  ·rw[hf] at hy
   injection hy with hy
   subst hy
   rw[hg]
   obtain⟨lab1,A1,ho,hfr⟩:=A0.step hgo
   exact⟨rfl,lab1,A1,(ho _ kb.lt).trans hl0,(ho _ ke.lt).trans hl1,kb.kept (hfr.box hl0 kb.lt),ke.kept (hfr.box hl1 ke.lt)⟩
  ·rw[hf] at hy;cases hy
 go_enter Tryz.func51,Tryz.ntmps51
 go_upto_region 1 with fail
 rw[HW.out]
 go_upto_region 4 with (first
  |(go_at_call 94;refine(HAL.out).mono ?_;rintro e w1 ⟨rfl,lab1,A1,hm0,hm1,kb1,ke1⟩;have HA1:=aa A1;have HM0:=aa hm0;have HM1:=aa hm1;have HKB:=aa kb1;have HKE:=aa ke1;clear A1 hm0 hm1 kb1 ke1))
 have hlt0:w.heap.size+1<w1.heap.size:=HKE.out.lt
 have hb1:Below w1.heap.size w1 (w1.alloc (.cells #[.int .i64 (x:Int),.int .u32 (g:Int)] 51)):=(Below.refl _ _).alloc (Nat.le_refl _) _
 have A1:=HA1.out.below hb1
 have hm2:lab1 w1.heap.size=0:=HA1.out.fresh (Nat.le_refl _)
 have i0:=aU w1 #[.int .i64 (x:Int),.int .u32 (g:Int)] 51 0 _ rfl
 have i1:=aU w1 #[.int .i64 (x:Int),.int .u32 (g:Int)] 51 1 _ rfl
 have kb1:=HKB.out.kept (hb1.block _ HKB.out.lt)
 have ke1:=HKE.out.kept (hb1.block _ HKE.out.lt)
 clear HA1 HKB HKE HAL hb1 kb ke A0 c5
 generalize w1.alloc (.cells #[.int .i64 (x:Int),.int .u32 (g:Int)] 51)=W1 at*
 generalize w1.heap.size=ib at*
 have hne0: ¬w.heap.size=ib:=by omega
 have hne1: ¬ib=w.heap.size:=by omega
 have A2:=(A1.set (Nat.le_refl w.heap.size) HM0.out 0 (.int .i64 (x:Int))).set (Nat.le_refl w.heap.size) HM0.out 1 (.int .u32 (g:Int))
 have kb2:jZ ((W1.setCell ⟨w.heap.size,0,none⟩ (.int .i64 (x:Int))).setCell ⟨w.heap.size,1,none⟩ (.int .u32 (g:Int))) w.heap.size {t with p:=(x:Int),g:=g}:=⟨(kb1.c.Bg (x:Int)).BJ g,fun o=>by rw[aN,aN];exact kb1.fz o⟩
 have hbl: ∀b,b≠w.heap.size→((W1.setCell ⟨w.heap.size,0,none⟩ (.int .i64 (x:Int))).setCell ⟨w.heap.size,1,none⟩ (.int .u32 (g:Int))).heap[b]? =W1.heap[b]? :=fun b hb=>(Below.heap_setCell _ _ _ _ hb).trans (Below.heap_setCell _ _ _ _ hb)
 have ke2:=ke1.kept (hbl (w.heap.size+1) (by omega))
 have j0:=(World.cell?_of_block (hbl ib hne1)).trans i0
 have j1:=(World.cell?_of_block (hbl ib hne1)).trans i1
 have q0:=kb1.c.c0
 have q1:=kb1.c.c1
 have qf:=kb1.fz
 clear hbl ke1 kb1 A1
 go_upto_region 5 with fail
 clear i0 i1 q0 q1 qf
 generalize (W1.setCell ⟨w.heap.size,0,none⟩ (.int .i64 (x:Int))).setCell ⟨w.heap.size,1,none⟩ (.int .u32 (g:Int))=W2 at*
 obtain⟨t',ht'⟩: ∃t':Tr,({t with p:=(x:Int),g:=g}:Tr)=t':=⟨_,rfl⟩
 have tok':t'.ok:=by rw[←ht'];exact⟨by show g<_;omega,tok.lv,tok.lf,tok.il,tok.sn⟩
 obtain⟨W3,hW3⟩: ∃W3,(jG W2 a.th (x*10) t').drew=W3:=⟨_,rfl⟩
 have A3:At w W3 lab lab1 a P n q T {dh M x with th:=Gt.aw (dh M x).th x t'}:=by rw[←hW3];exact(A2.EB hx t' tok').drew
 rw[ht'] at kb2
 have hnat: ∀b,lab1 b=0→b≠a.th:=fun b hb e=>by rw[e,A2.i.lth] at hb;cases hb
 have hbl: ∀b,lab1 b=0→W3.heap[b]? =W2.heap[b]? :=fun b hb=>by rw[←hW3,wF];exact zW W2 a.th (x*10) t' b (hnat b hb)
 have kb3:=kb2.kept (hbl _ HM0.out)
 have ke3:=ke2.kept (hbl _ HM1.out)
 have l0:=(World.cell?_of_block (hbl ib hm2)).trans j0
 have l1:=(World.cell?_of_block (hbl ib hm2)).trans j1
 unfold jG at hW3
 have HW3:=aa hW3
 clear hW3
 obtain⟨d0,d1,d2,d3,d4,d5,d6,d7,d8,d9⟩:=A2.i.th.at_ x hx
 have fz:=A2.i.th.fz
 have c4:=A2.i.co.c4
 have hbm: ¬a.th=w.heap.size:=fun e=>hnat _ HM0.out e.symm
 have hbm': ¬w.heap.size=a.th:=hnat _ HM0.out
 have HA3:=aa A3
 have HB3:=aa kb3
 have HE3:=aa ke3
 have HL0:=aa l0
 have HL1:=aa l1
 have HT':=aa ht'
 clear A2 A3 kb3 ke3 l0 l1 hbl ke2 hnat
 obtain⟨⟨s0,s1,s2,s3,s4,s5,s6,s7,s8,s9⟩,sf⟩:=kb2
 clear ht' tok' tok
 have hba: ¬a.m=a.th:=fun e=>by have h1:=HA3.out.i.lm;have h2:=HA3.out.i.lth;rw[e,h2] at h1;cases h1
 have hba': ¬a.th=a.m:=fun e=>hba e.symm
 have hbi: ¬ib=a.th:=fun e=>by have h2:=HA3.out.i.lth;rw[←e,hm2] at h2;cases h2
 have hbi': ¬a.th=ib:=fun e=>hbi e.symm
 have HM2:=aa hm2
 clear hm2 hG hgx hlt0 hl0 hl1 HW hf
 go_region_held3 (fun w'=>w'.cell? ⟨a.m,4,none⟩=some (.slice (some ⟨a.th,0,none⟩) n a.xt)∧w'.cell? ⟨ib,0,none⟩=some (.int .i64 (x:Int))∧w'.cell? ⟨w.heap.size,0,none⟩=some (.int .i64 t'.p)∧w'.cell? ⟨w.heap.size,1,none⟩=some (.int .u32 (t'.g:Int))∧w'.cell? ⟨w.heap.size,2,none⟩=some (.int .i64 t'.pg)∧w'.cell? ⟨w.heap.size,3,none⟩=some (.int .u8 (t'.lv:Int))∧w'.cell? ⟨w.heap.size,4,none⟩=some (.int .u8 (t'.lf:Int))∧w'.cell? ⟨w.heap.size,5,none⟩=some (.int .i64 t'.sv)∧w'.cell? ⟨w.heap.size,6,none⟩=some (.int .i64 t'.pc)∧w'.cell? ⟨w.heap.size,7,none⟩=some (.int .i64 t'.ia)∧w'.cell? ⟨w.heap.size,8,none⟩=some (.int .i64 t'.il)∧w'.cell? ⟨w.heap.size,9,none⟩=some (.int .u64 (t'.sn:Int)))
  (go_keep)
  (first|fail)
 rw[HW3.out]
 clear HW3 d0 d1 d2 d3 d4 d5 d6 d7 d8 d9 s0 s1 s2 s3 s4 s5 s6 s7 s8 s9 sf fz c4 j0 j1 hba hba' hbi hbi' hbm hbm' hne0 hne1
 have hgM:ready P n q {dh M x with th:=Gt.aw (dh M x).th x t'} x proc=fp P n q M x proc t:=by
  unfold fp
  rw[←HT'.out,←hg]
  rfl
 have HRD:Hid (Calls Tryz.prog 46 #[.pointer (some ⟨a.m,0,none⟩),.int .i64 (x:Int),.int .i64 proc] W3 fun e w'=>e= .returned (.tuple #[])∧ ∃lab2,At w w' lab lab2 a P n q (T+n+1) (fp P n q M x proc t)∧lab2 (w.heap.size+1)=0∧(w'.cell? ⟨ib,0,none⟩=some (.int .i64 (x:Int))∧w'.cell? ⟨ib,1,none⟩=some (.int .u32 (g:Int)))∧jZ w' w.heap.size t'∧jJ w' (w.heap.size+1) ⟨0,0,0,0,0,0⟩):=by
  refine(HA3.out.i.goes.ready hT x hx proc).mono ?_
  rintro e w' ⟨rfl,hgo⟩
  rw[hgM] at hgo
  obtain⟨lab2,A4,ho,hfr⟩:=HA3.out.step hgo
  exact⟨rfl,lab2,A4,(ho _ HE3.out.lt).trans HM1.out,⟨hfr.keep HM2.out HL0.out,hfr.keep HM2.out HL1.out⟩,HB3.out.kept (hfr.box HM0.out HB3.out.lt),HE3.out.kept (hfr.box HM1.out HE3.out.lt)⟩
 have l0:=HL0.out
 have HPG:Hid (t'.pg=t.pg):=by rw[←HT'.out];exact rfl
 clear hgM
 go_wp2_with (first
  |(go_at_call 46;refine(HRD.out).mono ?_;rintro e w4 ⟨rfl,lab2,A4,hm1,⟨m0,m1⟩,⟨⟨_,_,b2,_,_,_,_,_,_,_⟩,_⟩,⟨e0,e1,e2,e3,e4,e5,ef⟩⟩;have HA4:=aa A4;have HM4:=aa hm1;clear A4 hm1))
 have A5:=(((((HA4.out.set (b:=w.heap.size+1) (by omega) HM4.out 0 (.int .i64 9)).set (b:=w.heap.size+1) (by omega) HM4.out 1 (.int .i64 proc)).set (b:=w.heap.size+1) (by omega) HM4.out 2 (.int .i64 (x:Int))).set (b:=w.heap.size+1) (by omega) HM4.out 3 (.int .u32 (g:Int))).set (b:=w.heap.size+1) (by omega) HM4.out 4 (.int .i64 t'.pg)).set (b:=w.heap.size+1) (by omega) HM4.out 5 (.int .i64 0)
 rw[HPG.out] at A5⊢
 have HA5:=aa A5.goes
 clear A5 HA4 HA3
 rw[hg]
 simp[bodyPost,results,Tryz.results51,go_sem,e0,e1,e2,e3,e4,e5]
 exact HA5.out
end
def cZ (v:Ev):List Value:=[.int .i64 v.k,.int .i64 v.p,.int .i64 v.x,.int .u32 (v.g:Int),.int .i64 v.r,.int .i64 v.e]
def cQ (l:List Ev):List Value:=l.flatMap cZ
def iN (w:World) (base:Nat) (v:Value) (l:List Ev):Prop:=w.ownsRow base 75 6 v l.length (cQ l)
theorem iN.nil (w:World) (base:Nat):iN w base (.slice none 0 0) []:=⟨rfl,.inl ⟨rfl,rfl⟩⟩
theorem iN.one (w:World) (base:Nat) (hb:base≤w.heap.size) (v:Ev):iN (w.alloc (.cells #[.int .i64 v.k,.int .i64 v.p,.int .i64 v.x,.int .u32 (v.g:Int),.int .i64 v.r,.int .i64 v.e] 75)) base (.slice (some ⟨w.heap.size,0,none⟩) 1 1) [v]:=by
 refine⟨rfl,.inr ⟨w.heap.size,1,_,rfl,hb,(MapKept.heap_alloc w _).1,Nat.le_refl _,by decide,rfl,rfl⟩⟩
theorem iN.below {w w':World} {base:Nat} {v:Value} {l:List Ev} (h:iN w base v l) (hb:Below w.heap.size w w'):iN w' base v l:=by
 refine bj h (fun k hk=>hb.block k ?_)
 obtain⟨h1,⟨hv,_⟩|⟨g,cap,cells,hv,h3,h4,h5⟩⟩:=h
 ·rw[hv] at hk;cases hk
 ·rw[hv] at hk
  injection hk with hk
  rw[←hk]
  exact(Array.getElem?_eq_some_iff.1 h4).1
section
variable {w W W':World} {lab labk:Nat→Nat} {a:Ad} {P n q T T':Nat} {M M':Mc}
theorem zc.form {w:World} {v:Value} {l:List Pm} {vs:List Value} (h:zc w lab v l vs): ∃ad cap,v= .slice ad l.length cap:=by
 obtain⟨h1,⟨hv,hz⟩|⟨g,cap,cells,hv,_⟩⟩:=h.row
 ·exact⟨none,0,by rw[hv,hz]⟩
 ·exact⟨_,cap,hv⟩
def iz (M:Mc) (p:Int):Bool:=decide (0≤p)&&decide (p<(M.pr.length:Int))
theorem ax.zV (h:ax w lab a P n q T M) (p:Int):
  Calls Tryz.prog 49 #[.pointer (some ⟨a.m,0,none⟩),.int .i64 p] w fun e w'=>e= .returned (.bool (iz M p))∧w'=w:=by
 obtain⟨v,vs,c2,hp⟩:=h.pg
 obtain⟨ad,cap,rfl⟩:=hp.form
 clear h hp
 unfold iz
 generalize M.pr.length=len at*
 by_cases h0:0≤p
 ·have d0:decide (0≤p)=true:=decide_eq_true h0
  rw[d0]
  go_enter Tryz.func49,Tryz.ntmps49
  go_wp2
  go_ret
  exact⟨by simp,rfl⟩
 ·have d0:decide (0≤p)=false:=decide_eq_false h0
  rw[d0]
  go_enter Tryz.func49,Tryz.ntmps49
  go_wp2
  go_ret
  exact⟨by simp,rfl⟩
def nI (P:Nat) (p:Int):Bool:=decide (0≤p)&&decide (p<(P:Int))
theorem ax.tI (h:ax w lab a P n q T M) (p:Int):
  Calls Tryz.prog 38 #[.pointer (some ⟨a.m,0,none⟩),.int .i64 p] w fun e w'=>e= .returned (.bool (nI P p))∧w'=w:=by
 have c3:=h.co.c3
 clear h
 unfold nI
 by_cases h0:0≤p
 ·have d0:decide (0≤p)=true:=decide_eq_true h0
  rw[d0]
  go_enter Tryz.func38,Tryz.ntmps38
  go_wp2
  go_ret
  exact⟨by simp,rfl⟩
 ·have d0:decide (0≤p)=false:=decide_eq_false h0
  rw[d0]
  go_enter Tryz.func38,Tryz.ntmps38
  go_wp2
  go_ret
  exact⟨by simp,rfl⟩
theorem ax.Ew (h:ax w lab a P n q T M):
  Calls Tryz.prog 50 #[.pointer (some ⟨a.sb,0,none⟩)] w fun e w'=>e= .returned (.int .i64 (M.sv.length:Int))∧w'=w:=by
 obtain⟨base,v,hp,_⟩:=h.sv
 exact Cb.Cg hp
def dx (pg:Int) (lv:Nat) (sv:Int):Tr:=⟨0,0,pg,lv,0,sv,0,0,0,0⟩
def js (M:Mc) (pg sv:Int):Bool:= !iz M pg||decide (sv< -1)||decide ((M.sv.length:Int)≤sv)
noncomputable def dH (P n q:Nat) (M:Mc) (x:Nat) (pg:Int) (lv:Nat) (sv:Int):Mc:=settle (fp P n q M x 0 (dx pg lv sv)) n
end
section
variable {w W W':World} {lab labk:Nat→Nat} {a:Ad} {P n q T T':Nat} {M M':Mc}
theorem zw (x y z:Int) (w:World):(Instr.build 111 #[(1,.int .i64 x),(2,.int .u8 y),(4,.int .i64 z)]).run Tryz.prog w= .ok (.agg #[.int .i64 0,.int .u32 0,.int .i64 x,.int .u8 y,.int .u8 0,.int .i64 z,.int .i64 0,.int .i64 0,.int .i64 0,.int .u64 0]) w:=run_build w 111 _ _ (by kernel_rfl)
theorem yI (pg:Int) (lv:Nat) (sv:Int) (h:lv<256):(dx pg lv sv).ok:=⟨by show(0:Nat)<_;decide,h,by show(0:Nat)<_;decide,by show(0:Int)<_;decide,by show(0:Nat)<_;decide⟩
end
end Go.Proofs.YtjlbmmiomfpgiaaGreatDoor

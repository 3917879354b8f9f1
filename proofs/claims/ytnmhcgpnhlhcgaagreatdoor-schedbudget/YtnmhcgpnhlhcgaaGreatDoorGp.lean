/- YtnmhcgpnhlhcgaaGreatDoorGp: of the texts Ba1 Ba2 Ba3 Ba4 Ba5 Ba6 Ba7 Ba8 Ba9 Ba10 Ba11 Ba12 what is wanted. -/
import Derived.Test.YtnmhcgpnhlhcgaaGreatDoorG0
import Derived.Test.YtnmhcgpnhlhcgaaGreatDoorGg
import Derived.Test.YtnmhcgpnhlhcgaaGreatDoorGj
import Derived.Test.YtnmhcgpnhlhcgaaGreatDoorGk
import Derived.Test.YtnmhcgpnhlhcgaaGreatDoorGl
import Derived.Test.YtnmhcgpnhlhcgaaGreatDoorGa
import Derived.BigRegion
set_option maxHeartbeats 16000000
set_option maxRecDepth 100000
set_option linter.unusedVariables false
set_option linter.unusedSimpArgs false
namespace Go.Proofs.YtnmhcgpnhlhcgaaGreatDoor
open Go.RowKit
structure Tr where
 p:Int
 g:Nat
 pg:Int
 lv:Nat
 lf:Nat
 sv:Int
 pc:Int
 ia:Int
 il:Int
 sn:Nat
def noTr:Tr:=⟨0,0,0,0,0,0,0,0,0,0⟩
structure Tr.ok (t:Tr):Prop where
 g:t.g<4294967296
 lv:t.lv<256
 lf:t.lf<256
 il:t.il<9223372036854775808
 sn:t.sn<18446744073709551616
structure Pc where
 r:Int
 s:Nat
 m:Bool
structure Pm where
 len:Nat
 O:Nat→Int
 R:Nat→Int
structure Mc where
 qu:Nat
 ag:Nat
 pr:List Pm
 pc:Nat→Pc
 th:Nat→Tr
 G:Nat→Nat
 S:Nat→Nat
 sv:List Cb.Srv
 gr:Pi.Md
 pl:List (List En)
 nw:Nat
 wh:List Wh.It
structure Ad where
 m:Nat
 tb:Nat
 tg:Nat
 sb:Nat
 gb:Nat
 pb:Nat
 wb:Nat
 wg:Nat
 wm:Nat
 pr:Nat
 th:Nat
 xp:Nat
 xt:Nat
section
variable {S:Nat→Prop} {w w' w'':World}
theorem Fr.gt (h:Fr S w w'):Fr S w w':=⟨h.os,h.tape,h.output,h.size,h.block⟩
theorem Fr.cb (h:Fr S w w'):Fr S w w':=⟨h.os,h.tape,h.output,h.size,h.block⟩
theorem Fr.pi (h:Fr S w w'):Fr S w w':=⟨h.os,h.tape,h.output,h.size,h.block⟩
theorem Fr.wh (h:Fr S w w'):Fr S w w':=⟨h.os,h.tape,h.output,h.size,h.block⟩
theorem ofGt (h:Fr S w w'):Fr S w w':=⟨h.os,h.tape,h.output,h.size,h.block⟩
theorem ofCb (h:Fr S w w'):Fr S w w':=⟨h.os,h.tape,h.output,h.size,h.block⟩
theorem ofPi (h:Fr S w w'):Fr S w w':=⟨h.os,h.tape,h.output,h.size,h.block⟩
theorem ofWh (h:Fr S w w'):Fr S w w':=⟨h.os,h.tape,h.output,h.size,h.block⟩
theorem ofBelow (h:vBw w w'):Fr S w w':=⟨h.os,h.tape,h.output,h.size,fun k hk _=>h.block k hk⟩
theorem Fr.to {S':Nat→Prop} (h:Fr S w w') (hs: ∀k,k<w.heap.size→S k→S' k):Fr S' w w':=⟨h.os,h.tape,h.output,h.size,fun k hk hn=>h.block k hk (by grind)⟩
theorem Fr.then {S':Nat→Prop} (h:Fr S w w') (h':Fr S' w' w'') (hs: ∀k,k<w.heap.size→S' k→S k):Fr S w w'':=
 ⟨h'.os.trans h.os,h'.tape.trans h.tape,h'.output.trans h.output,Nat.le_trans h.size h'.size,fun k hk hn=>(h'.block k (Nat.lt_of_lt_of_le hk h.size) (by grind)).trans (h.block k hk hn)⟩
theorem Fr.cellAt (h:Fr S w w') {b o:Nat} (hk:b<w.heap.size) (hn: ¬S b):w'.cell? (vAt b o)=w.cell? (vAt b o):=World.cell?_of_block (h.block _ hk hn)
end
structure TrAt (w:World) (b o:Nat) (t:Tr):Prop where
 c0:w.cell? (vAt b o)=some (vI6 t.p)
 c1:w.cell? (vAt b (o+1))=some (vU3 (t.g:Int))
 c2:w.cell? (vAt b (o+2))=some (vI6 t.pg)
 c3:w.cell? (vAt b (o+3))=some (vU8 (t.lv:Int))
 c4:w.cell? (vAt b (o+4))=some (vU8 (t.lf:Int))
 c5:w.cell? (vAt b (o+5))=some (vI6 t.sv)
 c6:w.cell? (vAt b (o+6))=some (vI6 t.pc)
 c7:w.cell? (vAt b (o+7))=some (vI6 t.ia)
 c8:w.cell? (vAt b (o+8))=some (vI6 t.il)
 c9:w.cell? (vAt b (o+9))=some (vU6 (t.sn:Int))
structure PcAt (w:World) (b o:Nat) (x:Pc):Prop where
 c0:w.cell? (vAt b o)=some (vI6 x.r)
 c1:w.cell? (vAt b (o+1))=some (vU6 (x.s:Int))
 c2:w.cell? (vAt b (o+2))=some (.bool x.m)
theorem TrAt.kept {w w':World} {b o:Nat} {t:Tr} (h:TrAt w b o t) (hb:w'.heap[b]? =w.heap[b]?):TrAt w' b o t:=
 have e: ∀o,w'.cell? (vAt b o)=w.cell? (vAt b o):=fun _=>World.cell?_of_block hb
 ⟨(e _).trans h.c0,(e _).trans h.c1,(e _).trans h.c2,(e _).trans h.c3,(e _).trans h.c4,(e _).trans h.c5,(e _).trans h.c6,(e _).trans h.c7,(e _).trans h.c8,(e _).trans h.c9⟩
theorem PcAt.kept {w w':World} {b o:Nat} {t:Pc} (h:PcAt w b o t) (hb:w'.heap[b]? =w.heap[b]?):PcAt w' b o t:=
 have e: ∀o,w'.cell? (vAt b o)=w.cell? (vAt b o):=fun _=>World.cell?_of_block hb
 ⟨(e _).trans h.c0,(e _).trans h.c1,(e _).trans h.c2⟩
structure Core (w:World) (a:Ad) (P n qu ag:Nat):Prop where
 c0:w.cell? (vA0 a.m)=some (vU6 (qu:Int))
 c1:w.cell? (vAt a.m 1)=some (vU6 (ag:Int))
 c3:w.cell? (vAt a.m 3)=some (.slice (some (vA0 a.pr)) P a.xp)
 c4:w.cell? (vAt a.m 4)=some (.slice (some (vA0 a.th)) n a.xt)
 c5:w.cell? (vAt a.m 5)=some (vPt a.tb)
 c6:w.cell? (vAt a.m 6)=some (vPt a.sb)
 c7:w.cell? (vAt a.m 7)=some (vPt a.gb)
 c8:w.cell? (vAt a.m 8)=some (vPt a.pb)
 c9:w.cell? (vAt a.m 9)=some (vPt a.wb)
 fz: ∀o,w.frozen? (vAt a.m o)=false
theorem Core.kept {w w':World} {a:Ad} {P n qu ag:Nat} (h:Core w a P n qu ag) (hb:w'.heap[a.m]? =w.heap[a.m]?):Core w' a P n qu ag:=
 have e: ∀o,w'.cell? (vAt a.m o)=w.cell? (vAt a.m o):=fun _=>World.cell?_of_block hb
 ⟨(e _).trans h.c0,(e _).trans h.c1,(e _).trans h.c3,(e _).trans h.c4,(e _).trans h.c5,(e _).trans h.c6,(e _).trans h.c7,(e _).trans h.c8,(e _).trans h.c9,fun o=>(World.frozen?_of_block hb).trans (h.fz o)⟩
structure Pcs (w:World) (b P:Nat) (f:Nat→Pc):Prop where
 at_: ∀i,i<P→PcAt w b (i*3) (f i)
 fz: ∀o,w.frozen? (vAt b o)=false
 ok: ∀i,i<P→(f i).s<18446744073709551616
structure Ths (w:World) (b n:Nat) (f:Nat→Tr):Prop where
 at_: ∀i,i<n→TrAt w b (i*10) (f i)
 fz: ∀o,w.frozen? (vAt b o)=false
 ok: ∀i,i<n→(f i).ok
structure Prs (w:World) (lab:Nat→Nat) (v:Value) (l:List Pm) (vs:List Value):Prop where
 row:w.ownsRow 0 35 1 v l.length vs
 len:vs.length=l.length
 at_: ∀(i:Nat) (p:Pm) (u:Value),l[i]? =some p→vs[i]? =some u→w.ownsRow 0 83 2 u p.len (Ex.pcells p.O p.R p.len)∧ ∀k,u.ownBlock=some k→lab k=2
 lb: ∀k,v.ownBlock=some k→lab k=2
 ok: ∀p∈l,Ex.Rt p.len p.O p.R
theorem row_keptF {w w':World} {base:Nat} {e:TypeId} {size:Nat} {v:Value} {n:Nat} {xs:List Value} (h:w.ownsRow base e size v n xs) (hb: ∀k,v.ownBlock=some k→w'.heap[k]? =w.heap[k]?):w'.ownsRow base e size v n xs:=by
 obtain⟨h1,h2|⟨g,cap,cells,hv,h3,h4,h5⟩⟩:=h
 ·exact⟨h1,.inl h2⟩
 ·exact⟨h1,.inr ⟨g,cap,cells,hv,h3,(hb g (by rw[hv];rfl)).trans h4,h5⟩⟩
theorem Prs.kept {w w':World} {lab lab':Nat→Nat} {v:Value} {l:List Pm} {vs:List Value} (h:Prs w lab v l vs) (hb: ∀k,lab k=2→w'.heap[k]? =w.heap[k]?) (hl: ∀k,lab k=2→lab' k=2):Prs w' lab' v l vs:=
 ⟨row_keptF h.row (fun k hk=>hb k (h.lb k hk)),h.len,fun i p u h1 h2=>⟨row_keptF (h.at_ i p u h1 h2).1 (fun k hk=>hb k ((h.at_ i p u h1 h2).2 k hk)),fun k hk=>hl k ((h.at_ i p u h1 h2).2 k hk)⟩,fun k hk=>hl k (h.lb k hk),h.ok⟩
structure IsMc (w:World) (lab:Nat→Nat) (a:Ad) (P n q T:Nat) (M:Mc):Prop where
 hP:1≤P∧P≤64
 hn:1≤n∧n≤1024
 hq:M.qu<18446744073709551616∧M.ag<18446744073709551616
 lt: ∀k,lab k≠0→k<w.heap.size
 l0:lab 0=0
 lm:lab a.m=1
 co:Core w a P n M.qu M.ag
 pg: ∃v vs,w.cell? (vAt a.m 2)=some v∧Prs w lab v M.pr vs
 lpr:lab a.pr=3
 pc:Pcs w a.pr P M.pc
 lth:lab a.th=4
 th:Ths w a.th n M.th
 ltb:lab a.tb=5∧lab a.tg=5
 tb:Gt.Rep w a.tb a.tg n M.G M.S
 t0:Gt.Tab w
 lsb:lab a.sb=6
 sv: ∃base v,Cb.Pep w base a.sb P v M.sv∧ ∀k,v.ownBlock=some k→lab k=6
 gr: ∃b O,Pi.PG w b O a.gb M.gr∧ ∀k,O k→lab k=7
 pl: ∃O,PQ w O a.pb n P q T M.pl∧ ∀k,O k→lab k=8
 lw: ∀k,Wh.O3 a.wb a.wg a.wm k→lab k=9
 wh:Wh.IsW w a.wb a.wg a.wm n M.nw M.wh
section
variable {w w':World} {lab:Nat→Nat} {a:Ad} {P n q T:Nat} {M:Mc}
theorem IsMc.frame {S:Nat→Prop} (h:IsMc w lab a P n q T M) (hf:Fr S w w') (hS: ∀k,lab k≠0→ ¬S k) (h0: ¬S 0):IsMc w' lab a P n q T M:=by
 have hb:=fun k (hk:lab k≠0)=>hf.block k (h.lt k hk) (hS k hk)
 have bm:=hb a.m (by rw[h.lm];decide)
 have bp:=hb a.pr (by rw[h.lpr];decide)
 have bt:=hb a.th (by rw[h.lth];decide)
 have n5:=fun k (e:lab k=5)=>hS k (by omega)
 have n6:=fun k (e:lab k=6)=>hS k (by omega)
 have n7:=fun k (e:lab k=7)=>hS k (by omega)
 have n8:=fun k (e:lab k=8)=>hS k (by omega)
 have n9:=fun k (e:lab k=9)=>hS k (by omega)
 refine⟨h.hP,h.hn,h.hq,fun k hk=>Nat.lt_of_lt_of_le (h.lt k hk) hf.size,h.l0,h.lm,h.co.kept bm,?_,h.lpr,?_,h.lth,?_,h.ltb,h.tb.frame hf.gt (n5 _ h.ltb.1) (n5 _ h.ltb.2),h.t0.frame hf.gt h0,h.lsb,?_,?_,?_,h.lw,h.wh.frame hf.wh (fun k hk=>n9 k (h.lw k hk))⟩
 ·obtain⟨v,vs,e,hp⟩:=h.pg
  exact⟨v,vs,(World.cell?_of_block bm).trans e,hp.kept (by grind) (fun _ e=>e)⟩
 ·exact⟨fun i hi=>(h.pc.at_ i hi).kept bp,fun o=>(World.frozen?_of_block bp).trans (h.pc.fz o),h.pc.ok⟩
 ·exact⟨fun i hi=>(h.th.at_ i hi).kept bt,fun o=>(World.frozen?_of_block bt).trans (h.th.fz o),h.th.ok⟩
 ·obtain⟨base,v,hp,hl⟩:=h.sv
  exact⟨base,v,hp.frame hf.cb (n6 _ h.lsb) (by grind),hl⟩
 ·obtain⟨b,O,hp,hl⟩:=h.gr
  exact⟨b,O,hp.frame hf.pi (by grind),hl⟩
 ·obtain⟨O,hp,hl⟩:=h.pl
  exact⟨O,hp.frame hf (by grind),hl⟩
theorem IsMc.below (h:IsMc w lab a P n q T M) (hb:vBw w w'):IsMc w' lab a P n q T M:=
 h.frame (ofBelow (S:=fun _=>False) hb) (by simp) (fun q=>q)
end
structure Lab (w w':World) (lab lab':Nat→Nat):Prop where
 old: ∀k,k<w.heap.size→lab' k=lab k
 lt: ∀k,lab' k≠0→k<w'.heap.size
section
variable {w w' w'':World} {lab lab' lab'':Nat→Nat} {a:Ad} {P n q T T':Nat} {M:Mc}
theorem IsMc.same (h:IsMc w lab a P n q T M) {S:Nat→Prop} (hf:Fr S w w'):Lab w w' lab lab:=⟨fun _ _=>rfl,fun k hk=>Nat.lt_of_lt_of_le (h.lt k hk) hf.size⟩
theorem IsMc.l (h:IsMc w lab a P n q T M) (hl:Lab w w' lab lab') {k i:Nat} (e:lab k=i) (hi:i≠0):lab' k=i:=by
 rw[hl.old k (h.lt k (by omega)),e]
theorem IsMc.z (h:IsMc w lab a P n q T M) (hl:Lab w w' lab lab'):lab' 0=0:=by rw[hl.old 0 h.t0.pos,h.l0]
theorem IsMc.toTab (h:IsMc w lab a P n q T M) (hl:Lab w w' lab lab') (hf:Fr (fun k=>lab k=5) w w') {G' S':Nat→Nat} (hr:Gt.Rep w' a.tb a.tg n G' S'):IsMc w' lab' a P n q T {M with G:=G',S:=S'}:=by
 have hb:=fun k (hk:lab k≠0) (hi:lab k≠5)=>hf.block k (h.lt k hk) hi
 have bm:=hb a.m (by rw[h.lm];decide) (by rw[h.lm];decide)
 have bp:=hb a.pr (by rw[h.lpr];decide) (by rw[h.lpr];decide)
 have bt:=hb a.th (by rw[h.lth];decide) (by rw[h.lth];decide)
 have ne: ∀k j,lab k=j→j≠5→ ¬lab k=5:=fun k j e hj q=>(by omega)
 refine⟨h.hP,h.hn,h.hq,hl.lt,h.z hl,h.l hl h.lm (by decide),h.co.kept bm,?_,h.l hl h.lpr (by decide),⟨fun i hi=>(h.pc.at_ i hi).kept bp,fun o=>(World.frozen?_of_block bp).trans (h.pc.fz o),h.pc.ok⟩,h.l hl h.lth (by decide),⟨fun i hi=>(h.th.at_ i hi).kept bt,fun o=>(World.frozen?_of_block bt).trans (h.th.fz o),h.th.ok⟩,⟨h.l hl h.ltb.1 (by decide),h.l hl h.ltb.2 (by decide)⟩,hr,h.t0.frame hf.gt (by rw[h.l0];decide),h.l hl h.lsb (by decide),?_,?_,?_,fun k hk=>h.l hl (h.lw k hk) (by decide),h.wh.frame hf.wh (fun k hk=>ne _ _ (h.lw k hk) (by decide))⟩
 ·obtain⟨v,vs,e,hp⟩:=h.pg
  exact⟨v,vs,(World.cell?_of_block bm).trans e,hp.kept (by grind) (fun k e=>h.l hl e (by decide))⟩
 ·obtain⟨base,v,hp,hq⟩:=h.sv
  exact⟨base,v,hp.frame hf.cb (ne _ _ h.lsb (by decide)) (by grind),fun k hk=>h.l hl (hq k hk) (by decide)⟩
 ·obtain⟨b,O,hp,hq⟩:=h.gr
  exact⟨b,O,hp.frame hf.pi (by grind),fun k hk=>h.l hl (hq k hk) (by decide)⟩
 ·obtain⟨O,hp,hq⟩:=h.pl
  exact⟨O,hp.frame hf (by grind),fun k hk=>h.l hl (hq k hk) (by decide)⟩
theorem IsMc.toSrv (h:IsMc w lab a P n q T M) (hl:Lab w w' lab lab') (hf:Fr (fun k=>lab k=6) w w') {L':List Cb.Srv} {base:Nat} {v:Value} (hr:Cb.Pep w' base a.sb P v L') (hv: ∀k,v.ownBlock=some k→lab' k=6):IsMc w' lab' a P n q T {M with sv:=L'}:=by
 have hb:=fun k (hk:lab k≠0) (hi:lab k≠6)=>hf.block k (h.lt k hk) hi
 have bm:=hb a.m (by rw[h.lm];decide) (by rw[h.lm];decide)
 have bp:=hb a.pr (by rw[h.lpr];decide) (by rw[h.lpr];decide)
 have bt:=hb a.th (by rw[h.lth];decide) (by rw[h.lth];decide)
 have ne: ∀k j,lab k=j→j≠6→ ¬lab k=6:=fun k j e hj q=>(by omega)
 refine⟨h.hP,h.hn,h.hq,hl.lt,h.z hl,h.l hl h.lm (by decide),h.co.kept bm,?_,h.l hl h.lpr (by decide),⟨fun i hi=>(h.pc.at_ i hi).kept bp,fun o=>(World.frozen?_of_block bp).trans (h.pc.fz o),h.pc.ok⟩,h.l hl h.lth (by decide),⟨fun i hi=>(h.th.at_ i hi).kept bt,fun o=>(World.frozen?_of_block bt).trans (h.th.fz o),h.th.ok⟩,⟨h.l hl h.ltb.1 (by decide),h.l hl h.ltb.2 (by decide)⟩,h.tb.frame hf.gt (ne _ _ h.ltb.1 (by decide)) (ne _ _ h.ltb.2 (by decide)),h.t0.frame hf.gt (by rw[h.l0];decide),h.l hl h.lsb (by decide),(by grind),?_,?_,fun k hk=>h.l hl (h.lw k hk) (by decide),h.wh.frame hf.wh (fun k hk=>ne _ _ (h.lw k hk) (by decide))⟩
 ·obtain⟨v,vs,e,hp⟩:=h.pg
  exact⟨v,vs,(World.cell?_of_block bm).trans e,hp.kept (by grind) (fun k e=>h.l hl e (by decide))⟩
 ·obtain⟨b,O,hp,hq⟩:=h.gr
  exact⟨b,O,hp.frame hf.pi (by grind),fun k hk=>h.l hl (hq k hk) (by decide)⟩
 ·obtain⟨O,hp,hq⟩:=h.pl
  exact⟨O,hp.frame hf (by grind),fun k hk=>h.l hl (hq k hk) (by decide)⟩
theorem IsMc.toGr (h:IsMc w lab a P n q T M) (hl:Lab w w' lab lab') (hf:Fr (fun k=>lab k=7) w w') {g':Pi.Md} {b:Nat} {O:Nat→Prop} (hr:Pi.PG w' b O a.gb g') (ho: ∀k,O k→lab' k=7):IsMc w' lab' a P n q T {M with gr:=g'}:=by
 have hb:=fun k (hk:lab k≠0) (hi:lab k≠7)=>hf.block k (h.lt k hk) hi
 have bm:=hb a.m (by rw[h.lm];decide) (by rw[h.lm];decide)
 have bp:=hb a.pr (by rw[h.lpr];decide) (by rw[h.lpr];decide)
 have bt:=hb a.th (by rw[h.lth];decide) (by rw[h.lth];decide)
 have ne: ∀k j,lab k=j→j≠7→ ¬lab k=7:=fun k j e hj q=>(by omega)
 refine⟨h.hP,h.hn,h.hq,hl.lt,h.z hl,h.l hl h.lm (by decide),h.co.kept bm,?_,h.l hl h.lpr (by decide),⟨fun i hi=>(h.pc.at_ i hi).kept bp,fun o=>(World.frozen?_of_block bp).trans (h.pc.fz o),h.pc.ok⟩,h.l hl h.lth (by decide),⟨fun i hi=>(h.th.at_ i hi).kept bt,fun o=>(World.frozen?_of_block bt).trans (h.th.fz o),h.th.ok⟩,⟨h.l hl h.ltb.1 (by decide),h.l hl h.ltb.2 (by decide)⟩,h.tb.frame hf.gt (ne _ _ h.ltb.1 (by decide)) (ne _ _ h.ltb.2 (by decide)),h.t0.frame hf.gt (by rw[h.l0];decide),h.l hl h.lsb (by decide),?_,(by grind),?_,fun k hk=>h.l hl (h.lw k hk) (by decide),h.wh.frame hf.wh (fun k hk=>ne _ _ (h.lw k hk) (by decide))⟩
 ·obtain⟨v,vs,e,hp⟩:=h.pg
  exact⟨v,vs,(World.cell?_of_block bm).trans e,hp.kept (by grind) (fun k e=>h.l hl e (by decide))⟩
 ·obtain⟨base,v,hp,hq⟩:=h.sv
  exact⟨base,v,hp.frame hf.cb (ne _ _ h.lsb (by decide)) (by grind),fun k hk=>h.l hl (hq k hk) (by decide)⟩
 ·obtain⟨O,hp,hq⟩:=h.pl
  exact⟨O,hp.frame hf (by grind),fun k hk=>h.l hl (hq k hk) (by decide)⟩
theorem IsMc.toPl (h:IsMc w lab a P n q T M) (hl:Lab w w' lab lab') (hf:Fr (fun k=>lab k=8) w w') {l':List (List En)} {O:Nat→Prop} (hr:PQ w' O a.pb n P q T' l') (ho: ∀k,O k→lab' k=8):IsMc w' lab' a P n q T' {M with pl:=l'}:=by
 have hb:=fun k (hk:lab k≠0) (hi:lab k≠8)=>hf.block k (h.lt k hk) hi
 have bm:=hb a.m (by rw[h.lm];decide) (by rw[h.lm];decide)
 have bp:=hb a.pr (by rw[h.lpr];decide) (by rw[h.lpr];decide)
 have bt:=hb a.th (by rw[h.lth];decide) (by rw[h.lth];decide)
 have ne: ∀k j,lab k=j→j≠8→ ¬lab k=8:=fun k j e hj q=>(by omega)
 refine⟨h.hP,h.hn,h.hq,hl.lt,h.z hl,h.l hl h.lm (by decide),h.co.kept bm,?_,h.l hl h.lpr (by decide),⟨fun i hi=>(h.pc.at_ i hi).kept bp,fun o=>(World.frozen?_of_block bp).trans (h.pc.fz o),h.pc.ok⟩,h.l hl h.lth (by decide),⟨fun i hi=>(h.th.at_ i hi).kept bt,fun o=>(World.frozen?_of_block bt).trans (h.th.fz o),h.th.ok⟩,⟨h.l hl h.ltb.1 (by decide),h.l hl h.ltb.2 (by decide)⟩,h.tb.frame hf.gt (ne _ _ h.ltb.1 (by decide)) (ne _ _ h.ltb.2 (by decide)),h.t0.frame hf.gt (by rw[h.l0];decide),h.l hl h.lsb (by decide),?_,?_,⟨_,hr,ho⟩,fun k hk=>h.l hl (h.lw k hk) (by decide),h.wh.frame hf.wh (fun k hk=>ne _ _ (h.lw k hk) (by decide))⟩
 ·obtain⟨v,vs,e,hp⟩:=h.pg
  exact⟨v,vs,(World.cell?_of_block bm).trans e,hp.kept (by grind) (fun k e=>h.l hl e (by decide))⟩
 ·obtain⟨base,v,hp,hq⟩:=h.sv
  exact⟨base,v,hp.frame hf.cb (ne _ _ h.lsb (by decide)) (by grind),fun k hk=>h.l hl (hq k hk) (by decide)⟩
 ·obtain⟨b,O,hp,hq⟩:=h.gr
  exact⟨b,O,hp.frame hf.pi (by grind),fun k hk=>h.l hl (hq k hk) (by decide)⟩
theorem IsMc.toWh (h:IsMc w lab a P n q T M) (hl:Lab w w' lab lab') (hf:Fr (fun k=>lab k=9) w w') {nw':Nat} {l':List Wh.It} (hr:Wh.IsW w' a.wb a.wg a.wm n nw' l'):IsMc w' lab' a P n q T {M with nw:=nw',wh:=l'}:=by
 have hb:=fun k (hk:lab k≠0) (hi:lab k≠9)=>hf.block k (h.lt k hk) hi
 have bm:=hb a.m (by rw[h.lm];decide) (by rw[h.lm];decide)
 have bp:=hb a.pr (by rw[h.lpr];decide) (by rw[h.lpr];decide)
 have bt:=hb a.th (by rw[h.lth];decide) (by rw[h.lth];decide)
 have ne: ∀k j,lab k=j→j≠9→ ¬lab k=9:=fun k j e hj q=>(by omega)
 refine⟨h.hP,h.hn,h.hq,hl.lt,h.z hl,h.l hl h.lm (by decide),h.co.kept bm,?_,h.l hl h.lpr (by decide),⟨fun i hi=>(h.pc.at_ i hi).kept bp,fun o=>(World.frozen?_of_block bp).trans (h.pc.fz o),h.pc.ok⟩,h.l hl h.lth (by decide),⟨fun i hi=>(h.th.at_ i hi).kept bt,fun o=>(World.frozen?_of_block bt).trans (h.th.fz o),h.th.ok⟩,⟨h.l hl h.ltb.1 (by decide),h.l hl h.ltb.2 (by decide)⟩,h.tb.frame hf.gt (ne _ _ h.ltb.1 (by decide)) (ne _ _ h.ltb.2 (by decide)),h.t0.frame hf.gt (by rw[h.l0];decide),h.l hl h.lsb (by decide),?_,?_,?_,fun k hk=>h.l hl (h.lw k hk) (by decide),hr⟩
 ·obtain⟨v,vs,e,hp⟩:=h.pg
  exact⟨v,vs,(World.cell?_of_block bm).trans e,hp.kept (by grind) (fun k e=>h.l hl e (by decide))⟩
 ·obtain⟨base,v,hp,hq⟩:=h.sv
  exact⟨base,v,hp.frame hf.cb (ne _ _ h.lsb (by decide)) (by grind),fun k hk=>h.l hl (hq k hk) (by decide)⟩
 ·obtain⟨b,O,hp,hq⟩:=h.gr
  exact⟨b,O,hp.frame hf.pi (by grind),fun k hk=>h.l hl (hq k hk) (by decide)⟩
 ·obtain⟨O,hp,hq⟩:=h.pl
  exact⟨O,hp.frame hf (by grind),fun k hk=>h.l hl (hq k hk) (by decide)⟩
theorem IsMc.toPc (h:IsMc w lab a P n q T M) (hl:Lab w w' lab lab') (hf:Fr (fun k=>lab k=3) w w') {f:Nat→Pc} (hr:Pcs w' a.pr P f):IsMc w' lab' a P n q T {M with pc:=f}:=by
 have hb:=fun k (hk:lab k≠0) (hi:lab k≠3)=>hf.block k (h.lt k hk) hi
 have bm:=hb a.m (by rw[h.lm];decide) (by rw[h.lm];decide)
 have bt:=hb a.th (by rw[h.lth];decide) (by rw[h.lth];decide)
 have ne: ∀k j,lab k=j→j≠3→ ¬lab k=3:=fun k j e hj q=>(by omega)
 refine⟨h.hP,h.hn,h.hq,hl.lt,h.z hl,h.l hl h.lm (by decide),h.co.kept bm,?_,h.l hl h.lpr (by decide),hr,h.l hl h.lth (by decide),⟨fun i hi=>(h.th.at_ i hi).kept bt,fun o=>(World.frozen?_of_block bt).trans (h.th.fz o),h.th.ok⟩,⟨h.l hl h.ltb.1 (by decide),h.l hl h.ltb.2 (by decide)⟩,h.tb.frame hf.gt (ne _ _ h.ltb.1 (by decide)) (ne _ _ h.ltb.2 (by decide)),h.t0.frame hf.gt (by rw[h.l0];decide),h.l hl h.lsb (by decide),?_,?_,?_,fun k hk=>h.l hl (h.lw k hk) (by decide),h.wh.frame hf.wh (fun k hk=>ne _ _ (h.lw k hk) (by decide))⟩
 ·obtain⟨v,vs,e,hp⟩:=h.pg
  exact⟨v,vs,(World.cell?_of_block bm).trans e,hp.kept (by grind) (fun k e=>h.l hl e (by decide))⟩
 ·obtain⟨base,v,hp,hq⟩:=h.sv
  exact⟨base,v,hp.frame hf.cb (ne _ _ h.lsb (by decide)) (by grind),fun k hk=>h.l hl (hq k hk) (by decide)⟩
 ·obtain⟨b,O,hp,hq⟩:=h.gr
  exact⟨b,O,hp.frame hf.pi (by grind),fun k hk=>h.l hl (hq k hk) (by decide)⟩
 ·obtain⟨O,hp,hq⟩:=h.pl
  exact⟨O,hp.frame hf (by grind),fun k hk=>h.l hl (hq k hk) (by decide)⟩
theorem IsMc.toTh (h:IsMc w lab a P n q T M) (hl:Lab w w' lab lab') (hf:Fr (fun k=>lab k=4) w w') {f:Nat→Tr} (hr:Ths w' a.th n f):IsMc w' lab' a P n q T {M with th:=f}:=by
 have hb:=fun k (hk:lab k≠0) (hi:lab k≠4)=>hf.block k (h.lt k hk) hi
 have bm:=hb a.m (by rw[h.lm];decide) (by rw[h.lm];decide)
 have bp:=hb a.pr (by rw[h.lpr];decide) (by rw[h.lpr];decide)
 have ne: ∀k j,lab k=j→j≠4→ ¬lab k=4:=fun k j e hj q=>(by omega)
 refine⟨h.hP,h.hn,h.hq,hl.lt,h.z hl,h.l hl h.lm (by decide),h.co.kept bm,?_,h.l hl h.lpr (by decide),⟨fun i hi=>(h.pc.at_ i hi).kept bp,fun o=>(World.frozen?_of_block bp).trans (h.pc.fz o),h.pc.ok⟩,h.l hl h.lth (by decide),hr,⟨h.l hl h.ltb.1 (by decide),h.l hl h.ltb.2 (by decide)⟩,h.tb.frame hf.gt (ne _ _ h.ltb.1 (by decide)) (ne _ _ h.ltb.2 (by decide)),h.t0.frame hf.gt (by rw[h.l0];decide),h.l hl h.lsb (by decide),?_,?_,?_,fun k hk=>h.l hl (h.lw k hk) (by decide),h.wh.frame hf.wh (fun k hk=>ne _ _ (h.lw k hk) (by decide))⟩
 ·obtain⟨v,vs,e,hp⟩:=h.pg
  exact⟨v,vs,(World.cell?_of_block bm).trans e,hp.kept (by grind) (fun k e=>h.l hl e (by decide))⟩
 ·obtain⟨base,v,hp,hq⟩:=h.sv
  exact⟨base,v,hp.frame hf.cb (ne _ _ h.lsb (by decide)) (by grind),fun k hk=>h.l hl (hq k hk) (by decide)⟩
 ·obtain⟨b,O,hp,hq⟩:=h.gr
  exact⟨b,O,hp.frame hf.pi (by grind),fun k hk=>h.l hl (hq k hk) (by decide)⟩
 ·obtain⟨O,hp,hq⟩:=h.pl
  exact⟨O,hp.frame hf (by grind),fun k hk=>h.l hl (hq k hk) (by decide)⟩
def Goes (w w':World) (lab:Nat→Nat) (a:Ad) (P n q T:Nat) (M:Mc):Prop:= ∃lab',IsMc w' lab' a P n q T M∧Lab w w' lab lab'∧Fr (fun k=>lab k≠0) w w'
theorem Lab.then (h:Lab w w' lab lab') (h':Lab w' w'' lab' lab'') (hs:w.heap.size≤w'.heap.size):Lab w w'' lab lab'':=⟨fun k hk=>(h'.old k (by omega)).trans (h.old k hk),h'.lt⟩
theorem IsMc.stay (h:IsMc w lab a P n q T M) (hb:vBw w w'):Goes w w' lab a P n q T M:=⟨lab,h.below hb,h.same (S:=fun _=>False) (ofBelow hb),ofBelow hb⟩
theorem IsMc.goes (h:IsMc w lab a P n q T M):Goes w w lab a P n q T M:=h.stay bzR
theorem Goes.then {M':Mc} (h:Goes w w' lab a P n q T M) (h': ∀lab',IsMc w' lab' a P n q T M→Goes w' w'' lab' a P n q T' M'):Goes w w'' lab a P n q T' M':=by
 obtain⟨l1,i1,b1,f1⟩:=h
 obtain⟨l2,i2,b2,f2⟩:=h' l1 i1
 exact⟨l2,i2,b1.then b2 f1.size,f1.then f2 (fun k hk hn=>by rw[←b1.old k hk];exact hn)⟩
theorem Goes.after {M':Mc} (hl:Lab w w' lab lab') (hf:Fr (fun k=>lab k≠0) w w') (h':Goes w' w'' lab' a P n q T' M'):Goes w w'' lab a P n q T' M':=by
 obtain⟨l2,i2,b2,f2⟩:=h'
 exact⟨l2,i2,hl.then b2 hf.size,hf.then f2 (fun k hk hn=>by rw[←hl.old k hk];exact hn)⟩
theorem Goes.ahead (hb:vBw w w') (h:Goes w' w'' lab a P n q T M):Goes w w'' lab a P n q T M:=by
 obtain⟨l2,i2,b2,f2⟩:=h
 exact⟨l2,i2,⟨fun k hk=>b2.old k (Nat.lt_of_lt_of_le hk hb.size),b2.lt⟩,(ofBelow hb).then f2 (by simp)⟩
theorem Goes.more (h:Goes w w' lab a P n q T M) (hb:vBw w' w''):Goes w w'' lab a P n q T M:=h.then (fun _ i=>i.stay hb)
theorem IsMc.moreT (h:IsMc w lab a P n q T M) (hT:T≤T'):IsMc w lab a P n q T' M:=by
 obtain⟨O,hp,hl⟩:=h.pl
 exact⟨h.hP,h.hn,h.hq,h.lt,h.l0,h.lm,h.co,h.pg,h.lpr,h.pc,h.lth,h.th,h.ltb,h.tb,h.t0,h.lsb,h.sv,h.gr,⟨O,hp.more hT,hl⟩,h.lw,h.wh⟩
theorem Goes.moreT (h:Goes w w' lab a P n q T M) (hT:T≤T'):Goes w w' lab a P n q T' M:=by
 obtain⟨l1,i1,b1,f1⟩:=h
 exact⟨l1,i1.moreT hT,b1,f1⟩
end
def stOf (M:Mc) (n:Nat) (t:Tr):Nat:=if Gt.hasB n M.G M.S t.p t.g then M.S t.p.toNat else 0
def agedOf (M:Mc) (t:Tr):Int:=Ag.levN t.lv t.sn M.nw M.ag
def ownOf (M:Mc) (n:Nat) (t:Tr):Ke.K:=
 if 0<(Cb.atL M.sv t.sv).l then Ke.deadK ((Cb.atL M.sv t.sv).d:Int)
 else if stOf M n t=1 then Ke.fixK (agedOf M t)
 else if stOf M n t=2 then Ke.fixK (max (t.lv:Int) (t.lf:Int))
 else Ke.fixK (t.lv:Int)
theorem tstate_all {w:World} {b g n:Nat} {G S:Nat→Nat} (h:Gt.Rep w b g n G S) (p:Int) (q:Nat):
  vQ 133 #[vPt b,.agg #[vI6 p,vU3 (q:Int)]] w (.tuple #[vI6 ((if Gt.hasB n G S p q then S p.toNat else 0:Nat):Int),.bool (Gt.hasB n G S p q)]):=by
 cases hh:Gt.hasB n G S p q with
 |false=>
  simp only[Bool.false_eq_true,if_false]
  exact Gt.state_none h p q hh
 |true=>
  obtain⟨x,rfl,h1,h2,h3⟩:=Gt.hasB_some hh
  simp only[if_true,Int.toNat_natCast]
  grind[Gt.state_some]
theorem kc {W0 W:World} (hb:vBw W0 W) {b o:Nat} {u:Value} (c:W0.cell? (vAt b o)=some u):W.cell? (vAt b o)=some u:=(hb.cell (p:=(vAt b o)) (World.block_lt_of_cell? W0 _ c)).trans c
theorem bt {W0 W W':World} (hb:vBw W0 W) (hb':vBw W W'):vBw W0 W':=hb.trans (hb'.mono hb.size)
theorem bp {W0 W W':World} (h:vBw W0 W) (a:W'.heap=W.heap) (b:W'.os=W.os) (c:W'.tape=W.tape) (d:W'.output=W.output):vBw W0 W':=mK
theorem beq {w w':World} (h:w'=w):vBw w w':=by exact mK
theorem newc (w:World) (c:Array Value) (t:TypeId) (i:Nat) (u:Value) (h:c[i]? =some u):(w.alloc (.cells c t)).cell? (vAt w.heap.size i)=some u:=by
 simp_all
section
variable {w:World} {lab:Nat→Nat} {a:Ad} {P n q T:Nat} {M:Mc}
theorem IsMc.state (h:IsMc w lab a P n q T M) (t:Tr):
  vQ 81 #[vPt a.m,.agg #[.int .i64 t.p,.int .u32 (t.g:Int),.int .i64 t.pg,.int .u8 (t.lv:Int),.int .u8 (t.lf:Int),.int .i64 t.sv,.int .i64 t.pc,.int .i64 t.ia,.int .i64 t.il,.int .u64 (t.sn:Int)]] w (vI6 (stOf M n t:Int)):=by
 have hbw:vBw w (w.alloc (.cells #[.int .i64 t.p,.int .u32 (t.g:Int),.int .i64 t.pg,.int .u8 (t.lv:Int),.int .u8 (t.lf:Int),.int .i64 t.sv,.int .i64 t.pc,.int .i64 t.ia,.int .i64 t.il,.int .u64 (t.sn:Int)] 130)):=bzA
 have h0:=h.below hbw
 have k0:=newc w #[.int .i64 t.p,.int .u32 (t.g:Int),.int .i64 t.pg,.int .u8 (t.lv:Int),.int .u8 (t.lf:Int),.int .i64 t.sv,.int .i64 t.pc,.int .i64 t.ia,.int .i64 t.il,.int .u64 (t.sn:Int)] 130 0 _ rfl
 have k1:=newc w #[.int .i64 t.p,.int .u32 (t.g:Int),.int .i64 t.pg,.int .u8 (t.lv:Int),.int .u8 (t.lf:Int),.int .i64 t.sv,.int .i64 t.pc,.int .i64 t.ia,.int .i64 t.il,.int .u64 (t.sn:Int)] 130 1 _ rfl
 have HBW:=veil hbw
 clear h hbw
 generalize hW:w.alloc (.cells #[.int .i64 t.p,.int .u32 (t.g:Int),.int .i64 t.pg,.int .u8 (t.lv:Int),.int .u8 (t.lf:Int),.int .i64 t.sv,.int .i64 t.pc,.int .i64 t.ia,.int .i64 t.il,.int .u64 (t.sn:Int)] 130)=W0 at*
 have HW:=veil hW
 clear hW
 have HS:=veil (fun W (hb:vBw W0 W)=>(tstate_all ((h0.below hb).tb) t.p t.g).mono (fun _ _ ⟨e,b⟩=>(And.intro e (bt hb b))))
 have c5:=h0.co.c5
 have H0:=veil (Below.refl W0.heap.size W0)
 have hst:(if Gt.hasB n M.G M.S t.p t.g then M.S t.p.toNat else 0)=stOf M n t:=rfl
 rw[hst] at HS
 clear h0 hst
 generalize stOf M n t=st at*
 generalize Gt.hasB n M.G M.S t.p t.g=hb at*
 refine ge ?_
 go_wp2
 rw[HW.out]
 go_region_held3 (fun w'=>w'.cell? (vAt a.m 5)=some (vPt a.tb)∧w'.cell? (vA0 w.heap.size)=some (vI6 t.p)∧w'.cell? (vAt w.heap.size 1)=some (vU3 (t.g:Int)))
  (first|exact⟨kc HB1.out c5,kc HB1.out k0,kc HB1.out k1⟩|go_keep)
  (first
   |(go_at_call 133;refine cH (HS.out _ (by exact bp H0.out rfl rfl rfl rfl)) fun w1 HB1=> ?_))
 go_wp2
 go_ret
 exact⟨rfl,HBW.out.trans (HB1.out.mono HBW.out.size)⟩
theorem IsMc.now (h:IsMc w lab a P n q T M):
  vS 47 #[vPt a.m] w (vU6 (M.nw:Int)):=by
 have c9:=h.co.c9
 have HN:=veil (Wh.now_ok h.wh)
 clear h
 refine ge ?_
 go_wp2_with (first
  |(go_at_call 88;refine cS HN.out ?_))
 go_ret
 simp
theorem IsMc.nwl (h:IsMc w lab a P n q T M):M.nw<18446744073709551616:=h.wh.facts.2.2.2.2.1
theorem IsMc.aged (h:IsMc w lab a P n q T M) (t:Tr) (ht:t.ok):
  vQ 124 #[vPt a.m,.agg #[.int .i64 t.p,.int .u32 (t.g:Int),.int .i64 t.pg,.int .u8 (t.lv:Int),.int .u8 (t.lf:Int),.int .i64 t.sv,.int .i64 t.pc,.int .i64 t.ia,.int .i64 t.il,.int .u64 (t.sn:Int)]] w (vU8 (agedOf M t)):=by
 have hbw:vBw w (w.alloc (.cells #[.int .i64 t.p,.int .u32 (t.g:Int),.int .i64 t.pg,.int .u8 (t.lv:Int),.int .u8 (t.lf:Int),.int .i64 t.sv,.int .i64 t.pc,.int .i64 t.ia,.int .i64 t.il,.int .u64 (t.sn:Int)] 130)):=bzA
 have h0:=h.below hbw
 have k0:=newc w #[.int .i64 t.p,.int .u32 (t.g:Int),.int .i64 t.pg,.int .u8 (t.lv:Int),.int .u8 (t.lf:Int),.int .i64 t.sv,.int .i64 t.pc,.int .i64 t.ia,.int .i64 t.il,.int .u64 (t.sn:Int)] 130 3 _ rfl
 have k1:=newc w #[.int .i64 t.p,.int .u32 (t.g:Int),.int .i64 t.pg,.int .u8 (t.lv:Int),.int .u8 (t.lf:Int),.int .i64 t.sv,.int .i64 t.pc,.int .i64 t.ia,.int .i64 t.il,.int .u64 (t.sn:Int)] 130 9 _ rfl
 have HBW:=veil hbw
 have hnw:=h.nwl
 have hag:=h.hq.2
 clear h hbw
 generalize hW:w.alloc (.cells #[.int .i64 t.p,.int .u32 (t.g:Int),.int .i64 t.pg,.int .u8 (t.lv:Int),.int .u8 (t.lf:Int),.int .i64 t.sv,.int .i64 t.pc,.int .i64 t.ia,.int .i64 t.il,.int .u64 (t.sn:Int)] 130)=W0 at*
 have HW:=veil hW
 clear hW
 have HN:=veil (fun W (hb:vBw W0 W)=>(h0.below hb).now.mono (fun _ _ ⟨e,b⟩=>(And.intro e (bt hb (beq b)))))
 have HL:=veil (fun W (hb:vBw W0 W)=>(Ag.level_ok (t.lv:Int) (t.sn:Int) (M.nw:Int) (M.ag:Int) W (by have:=ht.lv;exact⟨by omega,by omega⟩) (by have:=ht.sn;exact⟨by omega,by omega⟩) ⟨by omega,by omega⟩ ⟨by omega,by omega⟩).mono (fun _ _ ⟨e,b⟩=>(And.intro e (bt hb (beq b)))))
 have c1:=h0.co.c1
 have H0:=veil (Below.refl W0.heap.size W0)
 have hst:Ag.levN t.lv t.sn M.nw M.ag=agedOf M t:=rfl
 rw[hst] at HL
 clear h0 hst hnw hag ht
 generalize agedOf M t=st at*
 refine ge ?_
 go_wp2
 rw[HW.out]
 go_region_held3 (fun w'=>w'.cell? (vAt a.m 1)=some (vU6 (M.ag:Int))∧w'.cell? (vAt w.heap.size 3)=some (vU8 (t.lv:Int))∧w'.cell? (vAt w.heap.size 9)=some (vU6 (t.sn:Int)))
  (first|exact⟨kc HB2.out c1,kc HB2.out k0,kc HB2.out k1⟩|exact⟨kc HB1.out c1,kc HB1.out k0,kc HB1.out k1⟩|go_keep)
  (first
   |(go_at_call 47;refine cH (HN.out _ (by exact bp H0.out rfl rfl rfl rfl)) fun w1 HB1=> ?_)
   |(go_at_call 161;refine cH (HL.out _ (by grind[RowKit.Hid.out])) fun w2 HB2=> ?_))
 go_wp2
 go_ret
 exact⟨rfl,HBW.out.trans (HB2.out.mono HBW.out.size)⟩
theorem ownOf_ok (h:IsMc w lab a P n q T M) (t:Tr) (ht:t.ok):(ownOf M n t).ok∧Ke.rightK (ownOf M n t)=true:=by
 have hl:=ht.lv
 have hf:=ht.lf
 have hfix: ∀l:Int,0≤l→l<256→(Ke.fixK l).ok∧Ke.rightK (Ke.fixK l)=true:=fun l h1 h2=>⟨⟨⟨Int.le_refl 0,by exact mK⟩,h1,h2⟩,rfl⟩
 unfold ownOf
 split
 ·obtain⟨base,v,hp,_⟩:=h.sv
  rename_i hpos
  refine⟨⟨⟨mK,?_⟩,Int.le_refl 0,by exact mK⟩,rfl⟩
  show(((Cb.atL M.sv t.sv).d:Nat):Int)<_
  have hd:(Cb.atL M.sv t.sv).d<18446744073709551616:=by
   rcases Cb.inL_cases M.sv t.sv with ⟨_,e⟩|⟨k,x,e,hx⟩
   ·unfold Cb.atL;grind
   ·rw[e,(Cb.atL_some hx).1]
    exact(hp.f.all x (List.mem_of_getElem? hx)).2.2.2.2
  omega
 ·split
  ·have hlv:0≤agedOf M t∧agedOf M t<256:=by
    unfold agedOf Ag.levN
    by_cases e:(M.ag:Int)=0
    ·omega
    ·rw[if_neg e]
     have hs:0≤subN M.nw t.sn:=by unfold subN;omega
     have hd:0≤subN M.nw t.sn/(M.ag:Int):=Int.ediv_nonneg hs (by omega)
     omega
   grind
  grind
end
theorem bset {B:Nat} {w W:World} (h:Below B w W) {a:Addr} (ha:B≤a.block) (u:Value):Below B w (W.setCell a u):=
 ⟨h.os,h.tape,h.output,by simpa using h.size,fun k hk=>(Below.heap_setCell _ _ _ _ (by omega)).trans (h.block k hk)⟩
structure KeyN (W:World) (b:Nat):Prop where
 c0:W.cell? (vA0 b)=some (.bool false)
 c1:W.cell? (vAt b 1)=some (vU6 0)
 c2:W.cell? (vAt b 2)=some (vU8 0)
 f0:W.frozen? (vA0 b)=false
 f1:W.frozen? (vAt b 1)=false
 f2:W.frozen? (vAt b 2)=false
theorem KeyN.kept {W W':World} {b:Nat} (h:KeyN W b) (hb:vBw W W'):KeyN W' b:=by
 have e:=hb.block b (World.block_lt_of_cell? W _ h.c0)
 exact⟨(World.cell?_of_block e).trans h.c0,(World.cell?_of_block e).trans h.c1,(World.cell?_of_block e).trans h.c2,(World.frozen?_of_block e).trans h.f0,(World.frozen?_of_block e).trans h.f1,(World.frozen?_of_block e).trans h.f2⟩
theorem KeyN.new (W:World):KeyN (W.alloc (.cells #[.bool false,vU6 0,vU8 0] 120)) W.heap.size:=
 ⟨(by simp),(by simp),(by simp),(by simp),(by simp),(by simp)⟩
theorem TrAt.new (W:World) (t:Tr):TrAt (W.alloc (.cells #[.int .i64 t.p,.int .u32 (t.g:Int),.int .i64 t.pg,.int .u8 (t.lv:Int),.int .u8 (t.lf:Int),.int .i64 t.sv,.int .i64 t.pc,.int .i64 t.ia,.int .i64 t.il,.int .u64 (t.sn:Int)] 130)) W.heap.size 0 t:=
 ⟨(by simp),(by simp),(by simp),(by simp),(by simp),(by simp),(by simp),(by simp),(by simp),(by simp)⟩
theorem TrAt.low {W W':World} {b o:Nat} {t:Tr} (h:TrAt W b o t) (hb:vBw W W'):TrAt W' b o t:=h.kept (hb.block b (World.block_lt_of_cell? W _ h.c0))
section
variable {w:World} {lab:Nat→Nat} {a:Ad} {P n q T:Nat} {M:Mc}
theorem IsMc.active (h:IsMc w lab a P n q T M) (i:Int):
  vQ 130 #[vPt a.sb,vI6 i] w (.bool (decide (0<(Cb.atL M.sv i).l))):=by
 grind[IsMc.sv,Cb.active_ok,Calls.mono,Cb.below_a]
theorem IsMc.deadline (h:IsMc w lab a P n q T M) (i:Int):
  vQ 132 #[vPt a.sb,vI6 i] w (vU6 ((Cb.atL M.sv i).d:Int)):=by
 grind[IsMc.sv,Cb.deadline_ok,Calls.mono,Cb.below_a]
theorem IsMc.own (h:IsMc w lab a P n q T M) (t:Tr) (ht:t.ok):
  vQ 80 #[vPt a.m,.agg #[.int .i64 t.p,.int .u32 (t.g:Int),.int .i64 t.pg,.int .u8 (t.lv:Int),.int .u8 (t.lf:Int),.int .i64 t.sv,.int .i64 t.pc,.int .i64 t.ia,.int .i64 t.il,.int .u64 (t.sn:Int)]] w (.agg (vKy (ownOf M n t))):=by
 have hbw1:vBw w (w.alloc (.cells #[.int .i64 t.p,.int .u32 (t.g:Int),.int .i64 t.pg,.int .u8 (t.lv:Int),.int .u8 (t.lf:Int),.int .i64 t.sv,.int .i64 t.pc,.int .i64 t.ia,.int .i64 t.il,.int .u64 (t.sn:Int)] 130)):=bzA
 have hbw:vBw w ((w.alloc (.cells #[.int .i64 t.p,.int .u32 (t.g:Int),.int .i64 t.pg,.int .u8 (t.lv:Int),.int .u8 (t.lf:Int),.int .i64 t.sv,.int .i64 t.pc,.int .i64 t.ia,.int .i64 t.il,.int .u64 (t.sn:Int)] 130)).alloc (.cells #[.bool false,vU6 0,vU8 0] 120)):=hbw1.alloc (by simp) _
 have h0:=h.below hbw
 have kt:TrAt ((w.alloc (.cells #[.int .i64 t.p,.int .u32 (t.g:Int),.int .i64 t.pg,.int .u8 (t.lv:Int),.int .u8 (t.lf:Int),.int .i64 t.sv,.int .i64 t.pc,.int .i64 t.ia,.int .i64 t.il,.int .u64 (t.sn:Int)] 130)).alloc (.cells #[.bool false,vU6 0,vU8 0] 120)) w.heap.size 0 t:=(TrAt.new w t).low bzA
 have kn:=KeyN.new (w.alloc (.cells #[.int .i64 t.p,.int .u32 (t.g:Int),.int .i64 t.pg,.int .u8 (t.lv:Int),.int .u8 (t.lf:Int),.int .i64 t.sv,.int .i64 t.pc,.int .i64 t.ia,.int .i64 t.il,.int .u64 (t.sn:Int)] 130))
 rw[show(w.alloc (.cells #[.int .i64 t.p,.int .u32 (t.g:Int),.int .i64 t.pg,.int .u8 (t.lv:Int),.int .u8 (t.lf:Int),.int .i64 t.sv,.int .i64 t.pc,.int .i64 t.ia,.int .i64 t.il,.int .u64 (t.sn:Int)] 130)).heap.size=w.heap.size+1 by simp] at kn
 have HBW:=veil hbw
 have hm: ¬a.m=w.heap.size+1:=by have:=h.lt a.m (by rw[h.lm];decide);omega
 have hm': ¬w.heap.size+1=a.m:=fun e=>hm e.symm
 clear h hbw hbw1
 generalize hW:(w.alloc (.cells #[.int .i64 t.p,.int .u32 (t.g:Int),.int .i64 t.pg,.int .u8 (t.lv:Int),.int .u8 (t.lf:Int),.int .i64 t.sv,.int .i64 t.pc,.int .i64 t.ia,.int .i64 t.il,.int .u64 (t.sn:Int)] 130)).alloc (.cells #[.bool false,vU6 0,vU8 0] 120)=W0 at*
 have HW:=veil hW
 clear hW
 have HA:=veil (fun W (hb:vBw W0 W)=>((h0.below hb).active t.sv).mono (fun _ _ ⟨e,b⟩=>And.intro e (bt hb b)))
 have HD:=veil (fun W (hb:vBw W0 W)=>((h0.below hb).deadline t.sv).mono (fun _ _ ⟨e,b⟩=>And.intro e (bt hb b)))
 have HK:=veil (fun W (hb:vBw W0 W)=>(Ke.dead_ok W ((Cb.atL M.sv t.sv).d:Int)).mono (fun _ _ ⟨e,b⟩=>And.intro e (bt hb b)))
 have HS:=veil (fun W (hb:vBw W0 W)=>((h0.below hb).state t).mono (fun _ _ ⟨e,b⟩=>And.intro e (bt hb b)))
 have HG:=veil (fun W (hb:vBw W0 W)=>((h0.below hb).aged t ht).mono (fun _ _ ⟨e,b⟩=>And.intro e (bt hb b)))
 have HF:=veil (fun l W (hb:vBw W0 W)=>(Ke.fixed_ok W l).mono (fun _ _ ⟨e,b⟩=>And.intro e (bt hb b)))
 have c6:=h0.co.c6
 have k5:=kt.c5
 have H0:=veil (Below.refl W0.heap.size W0)
 have HT:=veil (fun W (hb:vBw W0 W)=>And.intro (kt.low hb) (kn.kept hb))
 have hown:ownOf M n t=if 0<(Cb.atL M.sv t.sv).l then Ke.deadK ((Cb.atL M.sv t.sv).d:Int) else if stOf M n t=1 then Ke.fixK (agedOf M t) else if stOf M n t=2 then Ke.fixK (max (t.lv:Int) (t.lf:Int)) else Ke.fixK (t.lv:Int):=rfl
 clear h0 kt kn ht
 generalize ownOf M n t=own at*
 generalize stOf M n t=st at*
 generalize agedOf M t=ag at*
 generalize hsl:(Cb.atL M.sv t.sv).l=sl at*
 generalize (Cb.atL M.sv t.sv).d=sd at*
 by_cases hact:0<sl
 ·rw[if_pos hact] at hown
  subst hown
  have hd:=decide_eq_true hact
  rw[hd] at HA
  refine ge ?_
  go_wp2
  rw[HW.out]
  go_region_held3 (fun w'=>w'.cell? (vAt a.m 6)=some (vPt a.sb)∧w'.cell? (vAt w.heap.size 5)=some (vI6 t.sv))
   (first|exact⟨kc HB1.out c6,kc HB1.out k5⟩|go_keep)
   (first
    |(go_at_call 130;refine cH (HA.out _ (by exact bp H0.out rfl rfl rfl rfl)) fun w1 HB1=> ?_))
  go_wp2
  have d6:=kc HB1.out c6
  have d5:=kc HB1.out k5
  have HN:=veil (fun W hb=>(HT.out W hb).2)
  go_region_held3 (fun w'=>w'.cell? (vAt a.m 6)=some (vPt a.sb)∧w'.cell? (vAt w.heap.size 5)=some (vI6 t.sv))
   (first|exact⟨kc HB3.out c6,kc HB3.out k5⟩|exact⟨kc HB2.out c6,kc HB2.out k5⟩|go_keep)
   (first
    |(go_at_call 132;refine cH (HD.out _ (by exact bp HB1.out rfl rfl rfl rfl)) fun w2 HB2=> ?_)
    |(go_at_call 131;refine(HK.out _ (by exact bp HB2.out rfl rfl rfl rfl)).mono ?_;rintro e w3 ⟨rfl,hb3⟩;have HB3:=veil hb3;obtain⟨r0,r1,r2,f0,f1,f2⟩:=HN.out _ hb3;clear hb3))
  go_wp2
  simp[bodyPost,results,Tryz.results80,go_sem,r0,r1,r2]
  exact(bset (bset (bset (HBW.out.trans (HB3.out.mono HBW.out.size)) (by simp) _) (by simp) _) (by simp) _)
 ·rw[if_neg hact] at hown
  have hd:=decide_eq_false hact
  rw[hd] at HA
  refine ge ?_
  go_wp2
  rw[HW.out]
  go_region_held3 (fun w'=>w'.cell? (vAt a.m 6)=some (vPt a.sb)∧w'.cell? (vAt w.heap.size 5)=some (vI6 t.sv))
   (first|exact⟨kc HB1.out c6,kc HB1.out k5⟩|go_keep)
   (first
    |(go_at_call 130;refine cH (HA.out _ (by exact bp H0.out rfl rfl rfl rfl)) fun w1 HB1=> ?_))
  obtain⟨⟨d0,d1,d2,d3,d4,d5,d6,d7,d8,d9⟩,_⟩:=HT.out _ HB1.out
  by_cases h1:st=1
  ·rw[if_pos h1] at hown
   subst h1
   subst hown
   go_wp2_with (first
    |(go_at_call 81;refine(HS.out _ HB1.out).mono ?_;rintro e w2 ⟨rfl,hb2⟩;have HB2:=veil hb2;obtain⟨⟨d0,d1,d2,d3,d4,d5,d6,d7,d8,d9⟩,_⟩:=HT.out _ hb2;clear hb2)
    |(go_at_call 124;refine cH (HG.out _ HB2.out) fun w3 HB3=> ?_)
    |(go_at_call 68;refine(HF.out _ _ HB3.out).mono ?_;rintro e w4 ⟨rfl,hb4⟩;have HB4:=veil hb4;obtain⟨_,r0,r1,r2,f0,f1,f2⟩:=HT.out _ hb4;clear hb4))
   simp[bodyPost,results,Tryz.results80,go_sem,r0,r1,r2]
   exact bset (bset (bset (HBW.out.trans (HB4.out.mono HBW.out.size)) (by simp) _) (by simp) _) (by simp) _
  ·rw[if_neg h1] at hown
   have h1b:((st:Int)==1)=false:=by grind
   by_cases h2:st=2
   ·rw[if_pos h2] at hown
    subst h2
    subst hown
    go_wp2_with (first
     |(go_at_call 81;refine(HS.out _ HB1.out).mono ?_;rintro e w2 ⟨rfl,hb2⟩;have HB2:=veil hb2;obtain⟨⟨d0,d1,d2,d3,d4,d5,d6,d7,d8,d9⟩,_⟩:=HT.out _ hb2;clear hb2)
     |(go_at_call 68;refine(HF.out _ _ HB2.out).mono ?_;rintro e w4 ⟨rfl,hb4⟩;have HB4:=veil hb4;obtain⟨_,r0,r1,r2,f0,f1,f2⟩:=HT.out _ hb4;clear hb4))
    simp[bodyPost,results,Tryz.results80,go_sem,r0,r1,r2]
    exact bset (bset (bset (HBW.out.trans (HB4.out.mono HBW.out.size)) (by simp) _) (by simp) _) (by simp) _
   ·rw[if_neg h2] at hown
    have h2b:((st:Int)==2)=false:=by grind
    subst hown
    go_wp2_with (first
     |(go_at_call 81;refine(HS.out _ HB1.out).mono ?_;rintro e w2 ⟨rfl,hb2⟩;have HB2:=veil hb2;obtain⟨⟨d0,d1,d2,d3,d4,d5,d6,d7,d8,d9⟩,_⟩:=HT.out _ hb2;clear hb2)
     |(go_at_call 68;refine(HF.out _ _ HB2.out).mono ?_;rintro e w4 ⟨rfl,hb4⟩;have HB4:=veil hb4;obtain⟨_,r0,r1,r2,f0,f1,f2⟩:=HT.out _ hb4;clear hb4))
    simp[bodyPost,results,Tryz.results80,go_sem,r0,r1,r2]
    exact bset (bset (bset (HBW.out.trans (HB4.out.mono HBW.out.size)) (by simp) _) (by simp) _) (by simp) _
end
section
variable {w w':World} {lab:Nat→Nat} {a:Ad} {P n q T:Nat} {M:Mc}
theorem IsMc.fresh (h:IsMc w lab a P n q T M) {k:Nat} (hk:w.heap.size≤k):lab k=0:=by
 apply Classical.byContradiction
 intro e
 have:=h.lt k e
 omega
theorem Fr.keep (hf:Fr (fun k=>lab k≠0) w w') {b o:Nat} {u:Value} (hb:lab b=0) (c:w.cell? (vAt b o)=some u):w'.cell? (vAt b o)=some u:=
 (hf.cellAt (World.block_lt_of_cell? w _ c) (fun q=>q hb)).trans c
open Classical in
theorem IsMc.stp (h:IsMc w lab a P n q T M) {b:Nat} {O:Nat→Prop} {g:Pi.Md} (hO: ∀k,O k→lab k=7) (hs:Pi.Stp w w' b O a.gb g):Goes w w' lab a P n q T {M with gr:=g}:=by
 obtain⟨O',hp,hf,ho⟩:=hs
 have hf':=ofPi hf
 have hL:Lab w w' lab (fun k=>if O' k then 7 else lab k):=by
  refine⟨fun k hk=> ?_,fun k hk=> ?_⟩
  ·grind
  ·by_cases e:O' k
   ·exact hp.lt e
   ·simp only[e,if_false] at hk
    exact Nat.lt_of_lt_of_le (h.lt k hk) hf'.size
 have h7:=hf'.to (fun k _ hk=>hO k hk)
 refine⟨_,h.toGr hL h7 hp (fun k hk=> ?_),hL,h7.to (fun k _ hk=> ?_)⟩
 ·grind
 omega
theorem IsMc.base (h:IsMc w lab a P n q T M) (t:Int) (k:Ke.K) (hk:k.ok):
  vCa 79 #[vPt a.gb,vI6 t,.agg (vKy k)] w fun e w'=>(∃c:Int,e= .returned (vI6 c))∧Goes w w' lab a P n q T {M with gr:=(Pi.baseR M.gr t k).2}:=by
 grind[IsMc.gr,Pi.PG.base,Calls.mono,IsMc.stp]
theorem IsMc.key (h:IsMc w lab a P n q T M) (t:Int):
  vQ 83 #[vPt a.gb,vI6 t] w (.agg (vKy (Pi.keyA M.gr.T M.gr.L t))):=by
 grind[IsMc.gr,Pi.PG.key]
theorem maxK_ok {k k':Ke.K} (h:k.ok) (h':k'.ok):(Ke.maxK k k').ok:=by grind[Ke.maxK]
theorem kf_ok {T:List Pi.Th} {L:List Pi.Lk} (h: ∀x∈T,x.k.ok): ∀m t,(Pi.kf T L m t).ok
 |m,t=>by
  have h0:(Pi.ownK T t).ok:=by
   unfold Pi.ownK
   cases e:T[t]? with
   |none=>exact⟨⟨Int.le_refl 0,by decide⟩,Int.le_refl 0,by decide⟩
   |some x=>grind
  cases m with
  |zero=>exact h0
  |succ m=>
   unfold Pi.kf
   have: ∀(l:List Nat) (k:Ke.K),k.ok→(l.foldl (fun k x=>Ke.maxK k (Pi.kf T L m x)) k).ok:=fun l=>by
    induction l with
    |nil=>simp
    |cons x l ih=>exact fun k hk=>ih _ (maxK_ok hk (kf_ok h m x))
   exact this _ _ h0
theorem IsMc.key_ok (h:IsMc w lab a P n q T M) (t:Int):(Pi.keyA M.gr.T M.gr.L t).ok:=by
 obtain⟨b,O,hp,hO⟩:=h.gr
 have hf:=hp.f
 have h0:(Ke.fixK 0).ok:=⟨⟨Int.le_refl 0,by decide⟩,Int.le_refl 0,by decide⟩
 unfold Pi.keyA
 split
 ·unfold Pi.keyOf
  split
  ·exact kf_ok (fun x hx=>(hf.th x hx).1) _ _
  ·exact h0
 ·exact h0
theorem IsMc.change (h:IsMc w lab a P n q T M) (hT:T≤1000000000) (id:Nat) (hi:id<n) (k:Ke.K) (hk:k.ok):
  vCa 82 #[vPt a.pb,vI6 (id:Int),.agg (vKy k)] w fun e w'=>(∃c:Int,e= .returned (vI6 c))∧Goes w w' lab a P n q (T+1) {M with pl:=pchgG n (gh M.pl) (id:Int) k}:=by
 obtain⟨O,hp,hO⟩:=h.pl
 refine(hp.change hT (id:Int) (wf_nat (by exact mK)) k hk).mono ?_
 rintro e w' ⟨rfl,hp',hf⟩
 have h8:=hf.to (fun k _ hk=>hO k hk)
 refine⟨⟨_,rfl⟩,lab,h.toPl (h.same h8) h8 hp' hO,h.same h8,h8.to (fun k _ hk=> ?_)⟩
 omega
theorem IsMc.live (h:IsMc w lab a P n q T M):
  vCa 78 #[vPt a.tb] w fun e w'=> ∃v,e= .returned v∧w'.ownsRow w.heap.size 76 2 v (Gt.pl M.S false n n).length (Gt.idCells M.G (Gt.pl M.S false n n))∧vBw w w':=Gt.live_ok h.tb
def liveL (M:Mc) (n:Nat):List Nat:=(Gt.pl M.S false n n).map (·.val)
theorem liveL_lt (M:Mc) (n:Nat): ∀x∈liveL M n,x<n:=fun x hx=>by
 obtain⟨y,_,rfl⟩:=List.mem_map.1 hx
 omega
theorem liveL_len (M:Mc) (n:Nat):(liveL M n).length≤n:=by grind[liveL,Gt.pl_len]
theorem idCells_at (G:Nat→Nat) {n:Nat}: ∀(l:List (Fin n)) (j x:Nat),(l.map (·.val))[j]? =some x→(Gt.idCells G l)[j*2]? =some (vI6 (x:Int))∧(Gt.idCells G l)[j*2+1]? =some (vU3 (G x:Int))
 |[],j,x,h=>by simp at h
 |y::l,0,x,h=>by
  simp at h
  subst h
  exact⟨rfl,rfl⟩
 |y::l,j+1,x,h=>by
  have:=idCells_at G l j x (by grind)
  have e:Gt.idCells G (y::l)=vI6 (y.val:Int)::vU3 (G y.val:Int)::Gt.idCells G l:=rfl
  grind
structure Lv (W:World) (lab:Nat→Nat) (ad:Option Addr) (l:List Nat) (G:Nat→Nat):Prop where
 at_: ∀(j x:Nat),l[j]? =some x→ ∃rb:Nat,ad=some (vA0 rb)∧lab rb=0∧W.cell? (vAt rb (j*2))=some (vI6 (x:Int))∧W.cell? (vAt rb (j*2+1))=some (vU3 (G x:Int))
theorem Lv.of (h:IsMc w lab a P n q T M) {v:Value} (ho:w'.ownsRow w.heap.size 76 2 v (Gt.pl M.S false n n).length (Gt.idCells M.G (Gt.pl M.S false n n))):
  ∃ad cap,v= .slice ad (liveL M n).length cap∧Lv w' lab ad (liveL M n) M.G:=by
 have el:(liveL M n).length=(Gt.pl M.S false n n).length:=by unfold liveL;simp
 rw[el]
 have hl:=ho.1
 rcases ho with ⟨_,⟨hv,hz⟩|⟨g,cap,cells,hv,h3,h4,h5⟩⟩
 ·refine⟨none,0,by grind,⟨fun j x hx=> ?_⟩⟩
  grind
 ·refine⟨some (vA0 g),cap,hv,⟨fun j x hx=>⟨g,rfl,h.fresh h3,?_⟩⟩⟩
  have hc: ∀(k:Nat) (u:Value),(Gt.idCells M.G (Gt.pl M.S false n n))[k]? =some u→w'.cell? (vAt g k)=some u:=fun k u hu=>by
   rw[←h5.2.2.2,List.getElem?_take] at hu
   split at hu
   ·simp only[World.cell?,h4]
    grind
   grind
  have:=idCells_at M.G (Gt.pl M.S false n n) j x hx
  grind
noncomputable def base1 (n:Nat) (M:Mc) (g:Pi.Md) (x:Nat):Pi.Md:=(Pi.baseR g (x:Int) (ownOf M n (M.th x))).2
noncomputable def chg1 (n:Nat) (M:Mc) (g:Pi.Md) (l:List (List En)) (x:Nat):List (List En):=if stOf M n (M.th x)=1 then pchgG n (gh l) (x:Int) (Pi.keyA g.T g.L (x:Int)) else l
noncomputable def grOf (M:Mc) (n:Nat):Pi.Md:=(liveL M n).foldl (base1 n M) M.gr
noncomputable def settle (M:Mc) (n:Nat):Mc:={M with gr:=grOf M n,pl:=(liveL M n).foldl (chg1 n M (grOf M n)) M.pl}
def SetA (w1:World) (lab:Nat→Nat) (a:Ad) (P n q T:Nat) (M:Mc) (j:Nat) (wr:World):Prop:=Goes w1 wr lab a P n q T {M with gr:=((liveL M n).take j).foldl (base1 n M) M.gr}
def SetB (w1:World) (lab:Nat→Nat) (a:Ad) (P n q T:Nat) (M:Mc) (j:Nat) (wr:World):Prop:=Goes w1 wr lab a P n q (T+j) {M with gr:=grOf M n,pl:=((liveL M n).take j).foldl (chg1 n M (grOf M n)) M.pl}
theorem fold_take {α β:Type} (f:β→α→β) (b:β) {l:List α} {j:Nat} {x:α} (h:l[j]? =some x):(l.take (j+1)).foldl f b=f ((l.take j).foldl f b) x:=by
 grind[List.take_add_one]
theorem take_all {α:Type} {l:List α} {j:Nat} (h:l.length≤j):l.take j=l:=List.take_of_length_le h
end
section
variable {w:World} {lab:Nat→Nat} {a:Ad} {P n q T:Nat} {M:Mc}
theorem IsMc.settle (h:IsMc w lab a P n q T M) (hT:T+n≤1000000000):
  vCa 42 #[vPt a.m] w fun e w'=>e=vRt #[]∧Goes w w' lab a P n q (T+n) (Go.Proofs.YtnmhcgpnhlhcgaaGreatDoor.settle M n):=by
 obtain⟨len,hlen⟩: ∃len,(liveL M n).length=len:=⟨_,rfl⟩
 have hln:len≤n:=by rw[←hlen];exact liveL_len M n
 have hn:=h.hn
 have HL:Hid (vCa 78 #[vPt a.tb] w fun e w'=> ∃ad cap,e= .returned (.slice ad len cap)∧Lv w' lab ad (liveL M n) M.G∧IsMc w' lab a P n q T M∧vBw w w'):=by
  refine h.live.mono ?_
  rintro e w' ⟨v,rfl,ho,hb⟩
  obtain⟨ad,cap,rfl,hlv⟩:=Lv.of h ho
  exact⟨ad,cap,by rw[hlen],hlv,h.below hb,hb⟩
 have HLEN:=veil hlen
 have c5:=h.co.c5
 have HH:=veil h
 clear h hlen
 refine ge ?_
 go_wp2_with (first
  |(go_at_call 78;refine(HL.out).mono ?_;rintro e w1 ⟨ad,cap,rfl,hlv,hi,hb⟩;have HLV:=veil hlv;have HI:=veil hi;have HB:=veil hb;clear hlv hi hb))
 go_loopw [14] (fun iv wr=> ∃j:Nat,j≤len∧iv=vI6 (j:Int)∧SetA w1 lab a P n q T M j wr) (fun iv _=>len-(intOf iv).toNat)
 case atStart=>exact⟨0,Nat.zero_le _,rfl,HI.out.goes⟩
 case round=>
  obtain⟨j,hj,rfl,hs⟩:=hrel
  by_cases hjl:j<len
  ·have hjl':(j:Int)<(len:Int):=by omega
   obtain⟨x,hx⟩: ∃x,(liveL M n)[j]? =some x:=⟨(liveL M n)[j]'(by rw[HLEN.out];exact hjl),List.getElem?_eq_getElem _⟩
   have hxn:=liveL_lt M n x (List.mem_of_getElem? hx)
   have hxn':(x:Int)<(n:Int):=by omega
   obtain⟨rb,rfl,hrl,e0,e1⟩:=HLV.out.at_ j x hx
   obtain⟨lab1,h1,hl1,hf1⟩:=hs
   have r0:=hf1.keep hrl e0
   have r1:=hf1.keep hrl e1
   have HX:=veil hx
   clear hrl e0 e1 hx
   obtain⟨t,ht⟩: ∃t,M.th x=t:=⟨_,rfl⟩
   have hbw:vBw wr (wr.alloc (.cells #[vI6 (x:Int),vU3 (M.G x:Int)] 76)):=bzA
   have h0:=h1.below hbw
   have k0:=newc wr #[vI6 (x:Int),vU3 (M.G x:Int)] 76 0 _ rfl
   have hnl:=h1.fresh lzr
   have HBW:=veil hbw
   have H1:=veil h1
   have HL1:=veil hl1
   have HF1:=veil hf1
   clear hbw h1 hl1 hf1
   generalize hW:wr.alloc (.cells #[vI6 (x:Int),vU3 (M.G x:Int)] 76)=W0 at*
   have HW:=veil hW
   clear hW
   have tok:t.ok:=by rw[←ht];exact h0.th.ok x hxn
   obtain⟨d0,d1,d2,d3,d4,d5,d6,d7,d8,d9⟩:TrAt W0 a.th (x*10) t:=by rw[←ht];exact h0.th.at_ x hxn
   have c4:=h0.co.c4
   have c7:=h0.co.c7
   have hok:=ownOf_ok h0 t tok
   have HO:=veil (fun W (hb:vBw W0 W)=>((h0.below hb).own t tok).mono (fun _ _ ⟨e,b⟩=>And.intro e (bt hb b)))
   have HBS:Hid (∀W (hb:vBw W0 W),vCa 79 #[vPt a.gb,vI6 (x:Int),.agg (vKy (ownOf M n t))] W fun e w'=>(∃c:Int,e= .returned (vI6 c))∧SetA w1 lab a P n q T M (j+1) w'∧(w'.cell? (vAt a.m 7)=some (vPt a.gb)∧w'.cell? (vAt a.m 4)=some (.slice (some (vA0 a.th)) n a.xt)∧w'.cell? (vA0 wr.heap.size)=some (vI6 (x:Int))∧w'.cell? (vAt a.th (x*10))=some (vI6 t.p)∧w'.cell? (vAt a.th (x*10+1))=some (vU3 (t.g:Int))∧w'.cell? (vAt a.th (x*10+2))=some (vI6 t.pg)∧w'.cell? (vAt a.th (x*10+3))=some (vU8 (t.lv:Int))∧w'.cell? (vAt a.th (x*10+4))=some (vU8 (t.lf:Int))∧w'.cell? (vAt a.th (x*10+5))=some (vI6 t.sv)∧w'.cell? (vAt a.th (x*10+6))=some (vI6 t.pc)∧w'.cell? (vAt a.th (x*10+7))=some (vI6 t.ia)∧w'.cell? (vAt a.th (x*10+8))=some (vI6 t.il)∧w'.cell? (vAt a.th (x*10+9))=some (vU6 (t.sn:Int)))):=fun W hb=>by
    refine((h0.below hb).base (x:Int) (ownOf M n t) hok.1).mono ?_
    rintro e w' ⟨hc,hg⟩
    have hg':=hg
    obtain⟨lab2,h2,hl2,hf2⟩:=hg
    refine⟨hc,?_,?_⟩
    ·unfold SetA
     rw[fold_take _ _ HX.out]
     have hst:Goes W w' lab1 a P n q T {M with gr:=base1 n M (((liveL M n).take j).foldl (base1 n M) M.gr) x}:=by
      unfold base1;rw[ht];exact hg'
     exact Goes.after HL1.out HF1.out (Goes.ahead (bt HBW.out hb) hst)
    ·obtain⟨g0,g1,g2,g3,g4,g5,g6,g7,g8,g9⟩:TrAt w' a.th (x*10) t:=by rw[←ht];exact h2.th.at_ x hxn
     exact⟨h2.co.c7,h2.co.c4,hf2.keep hnl (kc hb k0),g0,g1,g2,g3,g4,g5,g6,g7,g8,g9⟩
   clear h0 hok tok
   go_wp2
   rw[HW.out]
   have H0:=veil (Below.refl W0.heap.size W0)
   go_region_held3 (fun w'=>w'.cell? (vAt a.m 7)=some (vPt a.gb)∧w'.cell? (vAt a.m 4)=some (.slice (some (vA0 a.th)) n a.xt)∧w'.cell? (vA0 wr.heap.size)=some (vI6 (x:Int))∧w'.cell? (vAt a.th (x*10))=some (vI6 t.p)∧w'.cell? (vAt a.th (x*10+1))=some (vU3 (t.g:Int))∧w'.cell? (vAt a.th (x*10+2))=some (vI6 t.pg)∧w'.cell? (vAt a.th (x*10+3))=some (vU8 (t.lv:Int))∧w'.cell? (vAt a.th (x*10+4))=some (vU8 (t.lf:Int))∧w'.cell? (vAt a.th (x*10+5))=some (vI6 t.sv)∧w'.cell? (vAt a.th (x*10+6))=some (vI6 t.pc)∧w'.cell? (vAt a.th (x*10+7))=some (vI6 t.ia)∧w'.cell? (vAt a.th (x*10+8))=some (vI6 t.il)∧w'.cell? (vAt a.th (x*10+9))=some (vU6 (t.sn:Int)))
    (first|exact HS2.out|exact⟨kc HB1.out c7,kc HB1.out c4,kc HB1.out k0,kc HB1.out d0,kc HB1.out d1,kc HB1.out d2,kc HB1.out d3,kc HB1.out d4,kc HB1.out d5,kc HB1.out d6,kc HB1.out d7,kc HB1.out d8,kc HB1.out d9⟩|go_keep)
    (first
     |(go_at_call 80;refine cH (HO.out _ (by exact bp H0.out rfl rfl rfl rfl)) fun w2 HB1=> ?_)
     |(go_at_call 79;refine(HBS.out _ (by exact bp HB1.out rfl rfl rfl rfl)).mono ?_;rintro e w3 ⟨⟨c,rfl⟩,hs,hs2⟩;have HS:=veil hs;have HS2:=veil hs2;clear hs hs2))
   go_wp2
   go_roundw
   case rel=>exact⟨j+1,by omega,by go_num,HS.out⟩
   case measure=>simp[intOf];omega
  ·have hjl': ¬(j:Int)<(len:Int):=by omega
   have hjn:j=len:=by omega
   have HSB:Hid (SetB w1 lab a P n q T M 0 wr):=by
    have hs':=hs
    unfold SetA at hs'
    rw[take_all (by rw[HLEN.out];omega)] at hs'
    exact hs'
   clear hs hjn
   go_wp2
   go_loopw [38] (fun iv wr=> ∃j:Nat,j≤len∧iv=vI6 (j:Int)∧SetB w1 lab a P n q T M j wr) (fun iv _=>len-(intOf iv).toNat)
   case atStart=>exact⟨0,Nat.zero_le _,rfl,HSB.out⟩
   case round=>
    clear HSB
    obtain⟨j,hj,rfl,hs⟩:=hrel
    by_cases hjl:j<len
    ·have hjl':(j:Int)<(len:Int):=by omega
     obtain⟨x,hx⟩: ∃x,(liveL M n)[j]? =some x:=⟨(liveL M n)[j]'(by rw[HLEN.out];exact hjl),List.getElem?_eq_getElem _⟩
     have hxn:=liveL_lt M n x (List.mem_of_getElem? hx)
     have hxn':(x:Int)<(n:Int):=by omega
     obtain⟨rb,rfl,hrl,e0,e1⟩:=HLV.out.at_ j x hx
     obtain⟨lab1,h1,hl1,hf1⟩:=hs
     have r0:=hf1.keep hrl e0
     have r1:=hf1.keep hrl e1
     have HX:=veil hx
     clear hrl e0 e1 hx
     obtain⟨t,ht⟩: ∃t,M.th x=t:=⟨_,rfl⟩
     have hbw:vBw wr (wr.alloc (.cells #[vI6 (x:Int),vU3 (M.G x:Int)] 76)):=bzA
     have h0:=h1.below hbw
     have k0:=newc wr #[vI6 (x:Int),vU3 (M.G x:Int)] 76 0 _ rfl
     have hnl:=h1.fresh lzr
     have HBW:=veil hbw
     have HL1:=veil hl1
     have HF1:=veil hf1
     have H1:=veil h1
     clear hbw h1 hl1 hf1
     generalize hW:wr.alloc (.cells #[vI6 (x:Int),vU3 (M.G x:Int)] 76)=W0 at*
     have HW:=veil hW
     clear hW
     obtain⟨d0,d1,d2,d3,d4,d5,d6,d7,d8,d9⟩:TrAt W0 a.th (x*10) t:=by rw[←ht];exact h0.th.at_ x hxn
     have c4:=h0.co.c4
     have c7:=h0.co.c7
     have c8:=h0.co.c8
     have HS:Hid (∀W (hb:vBw W0 W),vCa 81 #[vPt a.m,.agg #[.int .i64 t.p,.int .u32 (t.g:Int),.int .i64 t.pg,.int .u8 (t.lv:Int),.int .u8 (t.lf:Int),.int .i64 t.sv,.int .i64 t.pc,.int .i64 t.ia,.int .i64 t.il,.int .u64 (t.sn:Int)]] W fun e w'=>e= .returned (vI6 (stOf M n t:Int))∧vBw W0 w'):=fun W hb=>((h0.below hb).state t).mono (fun _ _ ⟨e,b⟩=>And.intro e (bt hb b))
     obtain⟨k,hk⟩: ∃k,Pi.keyA (grOf M n).T (grOf M n).L (x:Int)=k:=⟨_,rfl⟩
     have hkok:k.ok:=by rw[←hk];exact h0.key_ok (x:Int)
     have HK:Hid (∀W (hb:vBw W0 W),vCa 83 #[vPt a.gb,vI6 (x:Int)] W fun e w'=>e= .returned (.agg (vKy k))∧vBw W0 w'):=fun W hb=>by
      rw[←hk]
      exact((h0.below hb).key (x:Int)).mono (fun _ _ ⟨e,b⟩=>And.intro e (bt hb b))
     by_cases hst:stOf M n t=1
     ·have HC:Hid (∀W (hb:vBw W0 W),vCa 82 #[vPt a.pb,vI6 (x:Int),.agg (vKy k)] W fun e w'=>(∃c:Int,e= .returned (vI6 c))∧SetB w1 lab a P n q T M (j+1) w'∧(w'.cell? (vAt a.m 8)=some (vPt a.pb)∧w'.cell? (vAt a.m 7)=some (vPt a.gb)∧w'.cell? (vA0 wr.heap.size)=some (vI6 (x:Int)))):=fun W hb=>by
       refine((h0.below hb).change (by omega) x hxn k hkok).mono ?_
       rintro e w' ⟨hc,hg⟩
       have hg':=hg
       obtain⟨lab2,h2,hl2,hf2⟩:=hg
       refine⟨hc,?_,h2.co.c8,h2.co.c7,hf2.keep hnl (kc hb k0)⟩
       unfold SetB
       rw[fold_take _ _ HX.out]
       have hst':Goes W w' lab1 a P n q (T+(j+1)) {M with gr:=grOf M n,pl:=chg1 n M (grOf M n) (((liveL M n).take j).foldl (chg1 n M (grOf M n)) M.pl) x}:=by
        unfold chg1;rw[ht,if_pos hst,hk];exact hg'
       exact Goes.after HL1.out HF1.out (Goes.ahead (bt HBW.out hb) hst')
      have hstb:((stOf M n t:Int)==1)=true:=by grind
      clear h0 hkok hk H1
      rw[hst] at HS
      clear hst hstb
      go_wp2
      rw[HW.out]
      have H0:=veil (Below.refl W0.heap.size W0)
      go_region_held3 (fun w'=>w'.cell? (vAt a.m 4)=some (.slice (some (vA0 a.th)) n a.xt)∧w'.cell? (vA0 wr.heap.size)=some (vI6 (x:Int))∧w'.cell? (vAt a.th (x*10))=some (vI6 t.p)∧w'.cell? (vAt a.th (x*10+1))=some (vU3 (t.g:Int))∧w'.cell? (vAt a.th (x*10+2))=some (vI6 t.pg)∧w'.cell? (vAt a.th (x*10+3))=some (vU8 (t.lv:Int))∧w'.cell? (vAt a.th (x*10+4))=some (vU8 (t.lf:Int))∧w'.cell? (vAt a.th (x*10+5))=some (vI6 t.sv)∧w'.cell? (vAt a.th (x*10+6))=some (vI6 t.pc)∧w'.cell? (vAt a.th (x*10+7))=some (vI6 t.ia)∧w'.cell? (vAt a.th (x*10+8))=some (vI6 t.il)∧w'.cell? (vAt a.th (x*10+9))=some (vU6 (t.sn:Int)))
       (first|exact⟨kc HB1.out c4,kc HB1.out k0,kc HB1.out d0,kc HB1.out d1,kc HB1.out d2,kc HB1.out d3,kc HB1.out d4,kc HB1.out d5,kc HB1.out d6,kc HB1.out d7,kc HB1.out d8,kc HB1.out d9⟩|go_keep)
       (first
        |(go_at_call 81;refine cH (HS.out _ (by exact bp H0.out rfl rfl rfl rfl)) fun w2 HB1=> ?_))
      have c8':=kc HB1.out c8
      have c7':=kc HB1.out c7
      have k0':=kc HB1.out k0
      go_wp2
      go_region_held3 (fun w'=>w'.cell? (vAt a.m 8)=some (vPt a.pb)∧w'.cell? (vAt a.m 7)=some (vPt a.gb)∧w'.cell? (vA0 wr.heap.size)=some (vI6 (x:Int)))
       (first|exact HS2.out|exact⟨kc HB2.out c8,kc HB2.out c7,kc HB2.out k0⟩|go_keep)
       (first
        |(go_at_call 83;refine cH (HK.out _ (by exact bp HB1.out rfl rfl rfl rfl)) fun w3 HB2=> ?_)
        |(go_at_call 82;refine(HC.out _ (by exact bp HB2.out rfl rfl rfl rfl)).mono ?_;rintro e w4 ⟨⟨c,rfl⟩,hs,hs2⟩;have HSB:=veil hs;have HS2:=veil hs2;clear hs hs2))
      go_wp2
      go_roundw
      case rel=>exact⟨j+1,by omega,by go_num,HSB.out⟩
      case measure=>simp[intOf];omega
     ·have hstb:((stOf M n t:Int)==1)=false:=by grind
      have HC:Hid (∀W (hb:vBw W0 W),SetB w1 lab a P n q T M (j+1) W):=fun W hb=>by
       unfold SetB
       rw[fold_take _ _ HX.out]
       have hst':Goes W W lab1 a P n q (T+(j+1)) {M with gr:=grOf M n,pl:=chg1 n M (grOf M n) (((liveL M n).take j).foldl (chg1 n M (grOf M n)) M.pl) x}:=by
        unfold chg1;rw[ht,if_neg hst];exact((h0.below hb).moreT (by omega)).goes
       exact Goes.after HL1.out HF1.out (Goes.ahead (bt HBW.out hb) hst')
      clear h0 hkok hk H1 hst
      go_wp2
      rw[HW.out]
      have H0:=veil (Below.refl W0.heap.size W0)
      go_region_held3 (fun w'=>w'.cell? (vAt a.m 4)=some (.slice (some (vA0 a.th)) n a.xt)∧w'.cell? (vA0 wr.heap.size)=some (vI6 (x:Int))∧w'.cell? (vAt a.th (x*10))=some (vI6 t.p)∧w'.cell? (vAt a.th (x*10+1))=some (vU3 (t.g:Int))∧w'.cell? (vAt a.th (x*10+2))=some (vI6 t.pg)∧w'.cell? (vAt a.th (x*10+3))=some (vU8 (t.lv:Int))∧w'.cell? (vAt a.th (x*10+4))=some (vU8 (t.lf:Int))∧w'.cell? (vAt a.th (x*10+5))=some (vI6 t.sv)∧w'.cell? (vAt a.th (x*10+6))=some (vI6 t.pc)∧w'.cell? (vAt a.th (x*10+7))=some (vI6 t.ia)∧w'.cell? (vAt a.th (x*10+8))=some (vI6 t.il)∧w'.cell? (vAt a.th (x*10+9))=some (vU6 (t.sn:Int)))
       (first|exact⟨kc HB1.out c4,kc HB1.out k0,kc HB1.out d0,kc HB1.out d1,kc HB1.out d2,kc HB1.out d3,kc HB1.out d4,kc HB1.out d5,kc HB1.out d6,kc HB1.out d7,kc HB1.out d8,kc HB1.out d9⟩|go_keep)
       (first
        |(go_at_call 81;refine cH (HS.out _ (by exact bp H0.out rfl rfl rfl rfl)) fun w2 HB1=> ?_))
      go_wp2
      go_roundw
      case rel=>exact⟨j+1,by omega,by go_num,HC.out _ HB1.out⟩
      case measure=>simp[intOf];omega
    ·have hjl': ¬(j:Int)<(len:Int):=by omega
     have hjn:j=len:=by omega
     have HE:Hid (Goes w wr lab a P n q (T+n) (Go.Proofs.YtnmhcgpnhlhcgaaGreatDoor.settle M n)):=by
      have hs':=hs
      unfold SetB at hs'
      rw[take_all (by rw[HLEN.out];omega)] at hs'
      exact Goes.ahead HB.out (hs'.moreT (by omega))
     clear hs hjn
     go_wp2
     go_end0
     exact⟨rfl,HE.out⟩
end
section
variable {w w':World} {b o:Nat} {t:Tr}
theorem cfar (w:World) {b o o':Nat} {u:Value} (h: ¬o'=o):(w.setCell (vAt b o') u).cell? (vAt b o)=w.cell? (vAt b o):=Gt.set_other _ _ _ _ _ _ (by omega)
theorem TrAt.far (h:TrAt w b o t) {o':Nat} (ho:o'<o∨o+10≤o') (u:Value):TrAt (w.setCell (vAt b o') u) b o t:=
 ⟨(cfar w (by omega)).trans h.c0,(cfar w (by omega)).trans h.c1,(cfar w (by omega)).trans h.c2,(cfar w (by omega)).trans h.c3,(cfar w (by omega)).trans h.c4,(cfar w (by omega)).trans h.c5,(cfar w (by omega)).trans h.c6,(cfar w (by omega)).trans h.c7,(cfar w (by omega)).trans h.c8,(cfar w (by omega)).trans h.c9⟩
theorem TrAt.set_p (h:TrAt w b o t) (v:Int):TrAt (w.setCell (vAt b o) (vI6 v)) b o {t with p:=v}:=
 ⟨Gt.set_same _ _ _ _ h.c0,(cfar w (by omega)).trans h.c1,(cfar w (by omega)).trans h.c2,(cfar w (by omega)).trans h.c3,(cfar w (by omega)).trans h.c4,(cfar w (by omega)).trans h.c5,(cfar w (by omega)).trans h.c6,(cfar w (by omega)).trans h.c7,(cfar w (by omega)).trans h.c8,(cfar w (by omega)).trans h.c9⟩
theorem TrAt.set_g (h:TrAt w b o t) (v:Nat):TrAt (w.setCell (vAt b (o+1)) (vU3 (v:Int))) b o {t with g:=v}:=
 ⟨(cfar w (by omega)).trans h.c0,Gt.set_same _ _ _ _ h.c1,(cfar w (by omega)).trans h.c2,(cfar w (by omega)).trans h.c3,(cfar w (by omega)).trans h.c4,(cfar w (by omega)).trans h.c5,(cfar w (by omega)).trans h.c6,(cfar w (by omega)).trans h.c7,(cfar w (by omega)).trans h.c8,(cfar w (by omega)).trans h.c9⟩
theorem TrAt.set_pg (h:TrAt w b o t) (v:Int):TrAt (w.setCell (vAt b (o+2)) (vI6 v)) b o {t with pg:=v}:=
 ⟨(cfar w (by omega)).trans h.c0,(cfar w (by omega)).trans h.c1,Gt.set_same _ _ _ _ h.c2,(cfar w (by omega)).trans h.c3,(cfar w (by omega)).trans h.c4,(cfar w (by omega)).trans h.c5,(cfar w (by omega)).trans h.c6,(cfar w (by omega)).trans h.c7,(cfar w (by omega)).trans h.c8,(cfar w (by omega)).trans h.c9⟩
theorem TrAt.set_lv (h:TrAt w b o t) (v:Nat):TrAt (w.setCell (vAt b (o+3)) (vU8 (v:Int))) b o {t with lv:=v}:=
 ⟨(cfar w (by omega)).trans h.c0,(cfar w (by omega)).trans h.c1,(cfar w (by omega)).trans h.c2,Gt.set_same _ _ _ _ h.c3,(cfar w (by omega)).trans h.c4,(cfar w (by omega)).trans h.c5,(cfar w (by omega)).trans h.c6,(cfar w (by omega)).trans h.c7,(cfar w (by omega)).trans h.c8,(cfar w (by omega)).trans h.c9⟩
theorem TrAt.set_lf (h:TrAt w b o t) (v:Nat):TrAt (w.setCell (vAt b (o+4)) (vU8 (v:Int))) b o {t with lf:=v}:=
 ⟨(cfar w (by omega)).trans h.c0,(cfar w (by omega)).trans h.c1,(cfar w (by omega)).trans h.c2,(cfar w (by omega)).trans h.c3,Gt.set_same _ _ _ _ h.c4,(cfar w (by omega)).trans h.c5,(cfar w (by omega)).trans h.c6,(cfar w (by omega)).trans h.c7,(cfar w (by omega)).trans h.c8,(cfar w (by omega)).trans h.c9⟩
theorem TrAt.set_sv (h:TrAt w b o t) (v:Int):TrAt (w.setCell (vAt b (o+5)) (vI6 v)) b o {t with sv:=v}:=
 ⟨(cfar w (by omega)).trans h.c0,(cfar w (by omega)).trans h.c1,(cfar w (by omega)).trans h.c2,(cfar w (by omega)).trans h.c3,(cfar w (by omega)).trans h.c4,Gt.set_same _ _ _ _ h.c5,(cfar w (by omega)).trans h.c6,(cfar w (by omega)).trans h.c7,(cfar w (by omega)).trans h.c8,(cfar w (by omega)).trans h.c9⟩
theorem TrAt.set_pc (h:TrAt w b o t) (v:Int):TrAt (w.setCell (vAt b (o+6)) (vI6 v)) b o {t with pc:=v}:=
 ⟨(cfar w (by omega)).trans h.c0,(cfar w (by omega)).trans h.c1,(cfar w (by omega)).trans h.c2,(cfar w (by omega)).trans h.c3,(cfar w (by omega)).trans h.c4,(cfar w (by omega)).trans h.c5,Gt.set_same _ _ _ _ h.c6,(cfar w (by omega)).trans h.c7,(cfar w (by omega)).trans h.c8,(cfar w (by omega)).trans h.c9⟩
theorem TrAt.set_ia (h:TrAt w b o t) (v:Int):TrAt (w.setCell (vAt b (o+7)) (vI6 v)) b o {t with ia:=v}:=
 ⟨(cfar w (by omega)).trans h.c0,(cfar w (by omega)).trans h.c1,(cfar w (by omega)).trans h.c2,(cfar w (by omega)).trans h.c3,(cfar w (by omega)).trans h.c4,(cfar w (by omega)).trans h.c5,(cfar w (by omega)).trans h.c6,Gt.set_same _ _ _ _ h.c7,(cfar w (by omega)).trans h.c8,(cfar w (by omega)).trans h.c9⟩
theorem TrAt.set_il (h:TrAt w b o t) (v:Int):TrAt (w.setCell (vAt b (o+8)) (vI6 v)) b o {t with il:=v}:=
 ⟨(cfar w (by omega)).trans h.c0,(cfar w (by omega)).trans h.c1,(cfar w (by omega)).trans h.c2,(cfar w (by omega)).trans h.c3,(cfar w (by omega)).trans h.c4,(cfar w (by omega)).trans h.c5,(cfar w (by omega)).trans h.c6,(cfar w (by omega)).trans h.c7,Gt.set_same _ _ _ _ h.c8,(cfar w (by omega)).trans h.c9⟩
theorem TrAt.set_sn (h:TrAt w b o t) (v:Nat):TrAt (w.setCell (vAt b (o+9)) (vU6 (v:Int))) b o {t with sn:=v}:=
 ⟨(cfar w (by omega)).trans h.c0,(cfar w (by omega)).trans h.c1,(cfar w (by omega)).trans h.c2,(cfar w (by omega)).trans h.c3,(cfar w (by omega)).trans h.c4,(cfar w (by omega)).trans h.c5,(cfar w (by omega)).trans h.c6,(cfar w (by omega)).trans h.c7,(cfar w (by omega)).trans h.c8,Gt.set_same _ _ _ _ h.c9⟩
end
section
variable {w w':World} {lab:Nat→Nat} {a:Ad} {P n q T:Nat} {M:Mc}
theorem Ths.put {b:Nat} {f:Nat→Tr} (h:Ths w b n f) {x:Nat} {t:Tr} (ht:TrAt w' b (x*10) t) (hok:t.ok) (hfar: ∀j,j<n→j≠x→TrAt w' b (j*10) (f j)) (hfz: ∀o,w'.frozen? (vAt b o)=false):Ths w' b n (upd f x t):=by
 exact mK
theorem far10 {x j i:Nat} (h:j≠x) (hi:i<10):x*10+i<j*10∨j*10+10≤x*10+i:=by omega
theorem frozen_set (w:World) (a:Addr) (u:Value) (p:Addr):(w.setCell a u).frozen? p=w.frozen? p:=World.frozen?_setCell _ _ _ _
theorem IsMc.setSince (h:IsMc w lab a P n q T M) {x:Nat} (hx:x<n) (s:Nat) (hs:s<18446744073709551616) (l:Nat) (hl:l<256):
  Goes w ((w.setCell (vAt a.th (x*10+9)) (vU6 (s:Int))).setCell (vAt a.th (x*10+4)) (vU8 (l:Int))) lab a P n q T {M with th:=upd M.th x {M.th x with sn:=s,lf:=l}}:=by
 have ok:=h.th.ok x hx
 have hf:Fr (fun k=>lab k=4) w ((w.setCell (vAt a.th (x*10+9)) (vU6 (s:Int))).setCell (vAt a.th (x*10+4)) (vU8 (l:Int))):=((Fr.refl _ _).setCell (a:=(vAt a.th _)) h.lth _).setCell (a:=(vAt a.th _)) h.lth _
 refine⟨lab,h.toTh (h.same hf) hf (h.th.put (((h.th.at_ x hx).set_sn s).set_lf l) ⟨ok.g,ok.lv,hl,ok.il,hs⟩ (fun j hj hne=>((h.th.at_ j hj).far (by omega) _).far (by omega) _) (fun o=>by rw[frozen_set,frozen_set];exact h.th.fz o)),h.same hf,hf.to (fun k _ hk=> ?_)⟩
 omega
def moveS (n:Nat) (G S:Nat→Nat) (p:Int) (g s:Nat):Nat→Nat:=if Gt.hasB n G S p g=true∧Gt.mayB (S p.toNat) s=true then upd S p.toNat s else S
theorem IsMc.move (h:IsMc w lab a P n q T M) (p:Int) (g s:Nat):
  vCa 94 #[vPt a.tb,.agg #[vI6 p,vU3 (g:Int)],vI6 (s:Int)] w fun e w'=>(∃c:Int,e= .returned (vI6 c))∧Goes w w' lab a P n q T {M with S:=moveS n M.G M.S p g s}:=by
 cases hh:Gt.hasB n M.G M.S p g with
 |false=>
  refine(Gt.move_none h.tb p (s:Int) g hh).mono ?_
  rintro e w' ⟨rfl,hb⟩
  refine⟨⟨_,rfl⟩,?_⟩
  unfold moveS
  rw[if_neg (by grind)]
  exact h.stay hb
 |true=>
  obtain⟨x,rfl,h1,h2,h3⟩:=Gt.hasB_some hh
  cases hm:Gt.mayB (M.S x) s with
  |false=>
   refine(Gt.move_state h.tb h.t0 x g (s:Int) h1 h2 h3 hm).mono ?_
   rintro e w' ⟨rfl,hb⟩
   refine⟨⟨_,rfl⟩,?_⟩
   unfold moveS
   rw[if_neg (by grind)]
   exact h.stay hb
  |true=>
   refine(Gt.move_some h.tb h.t0 x g s h1 h2 h3 hm).mono ?_
   rintro e w' ⟨rfl,hr,hf⟩
   refine⟨⟨_,rfl⟩,?_⟩
   unfold moveS
   rw[if_pos ⟨hh,by grind⟩,Int.toNat_natCast]
   have h5:Fr (fun k=>lab k=5) w w':=(ofGt hf).to (fun k _ hk=>by rw[hk];exact h.ltb.2)
   exact⟨lab,h.toTab (h.same h5) h5 hr,h.same h5,h5.to (by omega)⟩
theorem IsMc.wake (h:IsMc w lab a P n q T M) (i:Int) (now:Nat) (hn:now<18446744073709551616):
  vCa 95 #[vPt a.sb,vI6 i,vU6 (now:Int)] w fun e w'=>(∃c:Int,e= .returned (vI6 c))∧Goes w w' lab a P n q T {M with sv:=Cb.wakL M.sv i now}:=by
 obtain⟨base,v,hp,hv⟩:=h.sv
 rcases Cb.inL_cases M.sv i with ⟨e1,e2⟩|⟨k,x,rfl,hx⟩
 ·refine(Cb.wake_range hp i now e2).mono ?_
  rintro e w' ⟨rfl,rfl⟩
  refine⟨⟨_,rfl⟩,?_⟩
  unfold Cb.wakL
  rw[if_neg (by grind)]
  exact h.goes
 ·have e1:=Cb.atL_some hx
  by_cases hd:x.d≤now
  ·refine(Cb.wake_yes hp k now x hx hd hn).mono ?_
   rintro e w' ⟨rfl,hr,hf⟩
   refine⟨⟨_,rfl⟩,?_⟩
   unfold Cb.wakL
   rw[e1.1,if_pos ⟨e1.2,hd⟩,Int.toNat_natCast]
   have h6:=(ofCb hf).to (fun k _ hk=>hv k hk.symm)
   exact⟨lab,h.toSrv (h.same h6) h6 hr hv,h.same h6,h6.to (by omega)⟩
  ·refine(Cb.wake_not hp k now x hx hd).mono ?_
   rintro e w' ⟨rfl,hb⟩
   refine⟨⟨_,rfl⟩,?_⟩
   unfold Cb.wakL
   rw[e1.1,if_neg (by omega)]
   exact h.stay hb
theorem IsMc.put (h:IsMc w lab a P n q T M) (hT:T≤1000000000) (p id:Int) (k:Ke.K) (hk:k.ok):
  vCa 96 #[vPt a.pb,vI6 p,vI6 id,.agg (vKy k)] w fun e w'=>(∃c:Int,e= .returned (vI6 c))∧Goes w w' lab a P n q (T+1) {M with pl:=pputG P n q (gh M.pl) p id k}:=by
 obtain⟨O,hp,hO⟩:=h.pl
 refine(hp.put hT p id k hk).mono ?_
 rintro e w' ⟨rfl,hp',hf⟩
 have h8:=hf.to (fun k _ hk=>hO k hk)
 exact⟨⟨_,rfl⟩,lab,h.toPl (h.same h8) h8 hp' hO,h.same h8,h8.to (by omega)⟩
noncomputable def ready1 (n:Nat) (M:Mc) (x:Nat):Mc:={M with S:=moveS n M.G M.S (M.th x).p (M.th x).g 1,th:=upd M.th x {M.th x with sn:=M.nw,lf:=0}}
noncomputable def ready2 (n:Nat) (M:Mc) (x:Nat):Mc:=if stOf M n (M.th x)=2 then ready1 n M x else{ready1 n M x with sv:=Cb.wakL M.sv (M.th x).sv M.nw}
noncomputable def ready3 (n:Nat) (M:Mc) (x:Nat):Mc:=settle (ready2 n M x) n
noncomputable def ready (P n q:Nat) (M:Mc) (x:Nat) (proc:Int):Mc:={ready3 n M x with pl:=pputG P n q (gh (ready3 n M x).pl) proc (x:Int) (Pi.keyA (ready3 n M x).gr.T (ready3 n M x).gr.L (x:Int))}
end
section
variable {w W W':World} {lab:Nat→Nat} {a:Ad} {P n q T:Nat} {M:Mc}
theorem gp (h:Goes w W lab a P n q T M) (e1:W'.heap=W.heap) (e2:W'.os=W.os) (e3:W'.tape=W.tape) (e4:W'.output=W.output):Goes w W' lab a P n q T M:=
 h.more mK
theorem Goes.core (h:Goes w W lab a P n q T M):Core W a P n M.qu M.ag:=h.elim fun _ q=>q.1.co
theorem Goes.tr (h:Goes w W lab a P n q T M) {x:Nat} (hx:x<n):TrAt W a.th (x*10) (M.th x):=h.elim fun _ q=>q.1.th.at_ x hx
theorem Goes.tfz (h:Goes w W lab a P n q T M) (o:Nat):W.frozen? (vAt a.th o)=false:=h.elim fun _ q=>q.1.th.fz o
theorem Goes.nwl (h:Goes w W lab a P n q T M):M.nw<18446744073709551616:=h.elim fun _ q=>q.1.nwl
theorem Goes.size (h:Goes w W lab a P n q T M):w.heap.size≤W.heap.size:=h.elim fun _ q=>q.2.2.size
theorem Goes.key_ok (h:Goes w W lab a P n q T M) (t:Int):(Pi.keyA M.gr.T M.gr.L t).ok:=h.elim fun _ q=>q.1.key_ok t
theorem Goes.state (h:Goes w W lab a P n q T M) (t:Tr):
  vCa 81 #[vPt a.m,.agg #[.int .i64 t.p,.int .u32 (t.g:Int),.int .i64 t.pg,.int .u8 (t.lv:Int),.int .u8 (t.lf:Int),.int .i64 t.sv,.int .i64 t.pc,.int .i64 t.ia,.int .i64 t.il,.int .u64 (t.sn:Int)]] W fun e w'=>e= .returned (vI6 (stOf M n t:Int))∧Goes w w' lab a P n q T M:=by
 obtain⟨l1,i1,b1,f1⟩:=id h
 grind[IsMc.state,Calls.mono,Goes.more]
theorem Goes.now (h:Goes w W lab a P n q T M):
  vS 47 #[vPt a.m] W (vU6 (M.nw:Int)):=by
 obtain⟨l1,i1,b1,f1⟩:=id h
 exact i1.now
theorem Goes.nowG (h:Goes w W lab a P n q T M):
  vCa 47 #[vPt a.m] W fun e w'=>e= .returned (vU6 (M.nw:Int))∧Goes w w' lab a P n q T M:=
 h.now.mono (by grind)
theorem Goes.key (h:Goes w W lab a P n q T M) (t:Int):
  vCa 83 #[vPt a.gb,vI6 t] W fun e w'=>e= .returned (.agg (vKy (Pi.keyA M.gr.T M.gr.L t)))∧Goes w w' lab a P n q T M:=by
 obtain⟨l1,i1,b1,f1⟩:=id h
 grind[IsMc.key,Calls.mono,Goes.more]
theorem Goes.move (h:Goes w W lab a P n q T M) (p:Int) (g s:Nat):
  vCa 94 #[vPt a.tb,.agg #[vI6 p,vU3 (g:Int)],vI6 (s:Int)] W fun e w'=>(∃c:Int,e= .returned (vI6 c))∧Goes w w' lab a P n q T {M with S:=moveS n M.G M.S p g s}:=by
 obtain⟨l1,i1,b1,f1⟩:=id h
 grind[IsMc.move,Calls.mono,Goes.after]
theorem Goes.wake (h:Goes w W lab a P n q T M) (i:Int) (now:Nat) (hn:now<18446744073709551616):
  vCa 95 #[vPt a.sb,vI6 i,vU6 (now:Int)] W fun e w'=>(∃c:Int,e= .returned (vI6 c))∧Goes w w' lab a P n q T {M with sv:=Cb.wakL M.sv i now}:=by
 obtain⟨l1,i1,b1,f1⟩:=id h
 grind[IsMc.wake,Calls.mono,Goes.after]
theorem Goes.put (h:Goes w W lab a P n q T M) (hT:T≤1000000000) (p id:Int) (k:Ke.K) (hk:k.ok):
  vCa 96 #[vPt a.pb,vI6 p,vI6 id,.agg (vKy k)] W fun e w'=>(∃c:Int,e= .returned (vI6 c))∧Goes w w' lab a P n q (T+1) {M with pl:=pputG P n q (gh M.pl) p id k}:=by
 obtain⟨l1,i1,b1,f1⟩:=h
 grind[IsMc.put,Calls.mono,Goes.after]
theorem Goes.settle (h:Goes w W lab a P n q T M) (hT:T+n≤1000000000):
  vCa 42 #[vPt a.m] W fun e w'=>e=vRt #[]∧Goes w w' lab a P n q (T+n) (Go.Proofs.YtnmhcgpnhlhcgaaGreatDoor.settle M n):=by
 obtain⟨l1,i1,b1,f1⟩:=h
 grind[IsMc.settle,Calls.mono,Goes.after]
theorem Goes.setSince (h:Goes w W lab a P n q T M) {x:Nat} (hx:x<n) (s:Nat) (hs:s<18446744073709551616) (l:Nat) (hl:l<256):
  Goes w ((W.setCell (vAt a.th (x*10+9)) (vU6 (s:Int))).setCell (vAt a.th (x*10+4)) (vU8 (l:Int))) lab a P n q T {M with th:=upd M.th x {M.th x with sn:=s,lf:=l}}:=by
 obtain⟨l1,i1,b1,f1⟩:=h
 grind[Goes.after,IsMc.setSince]
theorem Goes.ready (h:Goes w W lab a P n q T M) (hT:T+n≤1000000000) (x:Nat) (hx:x<n) (proc:Int):
  vCa 50 #[vPt a.m,vI6 (x:Int),vI6 proc] W fun e w'=>e=vRt #[]∧Goes w w' lab a P n q (T+n+1) (Go.Proofs.YtnmhcgpnhlhcgaaGreatDoor.ready P n q M x proc):=by
 obtain⟨t,ht⟩: ∃t,M.th x=t:=⟨_,rfl⟩
 have hx':(x:Int)<(n:Int):=by omega
 obtain⟨d0,d1,d2,d3,d4,d5,d6,d7,d8,d9⟩:TrAt W a.th (x*10) t:=by rw[←ht];exact h.tr hx
 have c4:=h.core.c4
 have hnw:=h.nwl
 have H0:=veil h
 have HS:=veil (fun W (h:Goes w W lab a P n q T M)=>h.state t)
 have HM:Hid (∀W (h:Goes w W lab a P n q T M),vCa 94 #[vPt a.tb,.agg #[vI6 t.p,vU3 (t.g:Int)],vI6 1] W fun e w'=>(∃c:Int,e= .returned (vI6 c))∧Goes w w' lab a P n q T {M with S:=moveS n M.G M.S t.p t.g 1}):=fun W h=>h.move t.p t.g 1
 have HR1:Hid (∀W,Goes w W lab a P n q T {M with S:=moveS n M.G M.S t.p t.g 1}→Goes w ((W.setCell (vAt a.th (x*10+9)) (vU6 (M.nw:Int))).setCell (vAt a.th (x*10+4)) (vU8 0)) lab a P n q T (ready1 n M x)):=fun W h=>by
  have:=h.setSince hx M.nw hnw 0 (by decide)
  unfold ready1
  rw[ht]
  rw[←ht] at this
  rw[←ht]
  exact this
 clear h
 have HTT:Hid (∀W (h:Goes w W lab a P n q T M),W.cell? (vAt a.th (x*10))=some (vI6 t.p)∧W.cell? (vAt a.th (x*10+1))=some (vU3 (t.g:Int))):=fun W h=>by rw[←ht];exact⟨(h.tr hx).c0,(h.tr hx).c1⟩
 by_cases hst:stOf M n t=2
 ·have hstb:((stOf M n t:Int) !=2)=false:=by grind
  have e2:ready2 n M x=ready1 n M x:=by unfold ready2;grind
  have HST:Hid (∀W (h:Goes w W lab a P n q T (ready2 n M x)),vCa 42 #[vPt a.m] W fun e w'=>e=vRt #[]∧Goes w w' lab a P n q (T+n) (ready3 n M x)):=fun W h=>h.settle hT
  obtain⟨k,hk⟩: ∃k,Pi.keyA (ready3 n M x).gr.T (ready3 n M x).gr.L (x:Int)=k:=⟨_,rfl⟩
  have HK:Hid (∀W (h:Goes w W lab a P n q (T+n) (ready3 n M x)),vCa 83 #[vPt a.gb,vI6 (x:Int)] W fun e w'=>e= .returned (.agg (vKy k))∧Goes w w' lab a P n q (T+n) (ready3 n M x)):=fun W h=>by
   rw[←hk];exact h.key (x:Int)
  have HP:Hid (∀W (h:Goes w W lab a P n q (T+n) (ready3 n M x)),vCa 96 #[vPt a.pb,vI6 proc,vI6 (x:Int),.agg (vKy k)] W fun e w'=>(∃c:Int,e= .returned (vI6 c))∧Goes w w' lab a P n q (T+n+1) (Go.Proofs.YtnmhcgpnhlhcgaaGreatDoor.ready P n q M x proc)):=fun W h=>by
   unfold Go.Proofs.YtnmhcgpnhlhcgaaGreatDoor.ready
   have hok:=h.key_ok (x:Int)
   rw[hk] at hok⊢
   exact h.put hT proc (x:Int) k hok
  have HFT:Hid (∀W,Goes w W lab a P n q T {M with S:=moveS n M.G M.S t.p t.g 1}→TrAt W a.th (x*10) t∧ ∀o,W.frozen? (vAt a.th o)=false):=fun W h=>⟨by rw[←ht];exact h.tr hx,h.tfz⟩
  have HFR:Hid (∀W,Goes w W lab a P n q T (ready1 n M x)→W.cell? (vAt a.th (x*10+5))=some (vI6 t.sv)):=fun W h=>by
   have:=(h.tr hx).c5
   unfold ready1 at this
   grind[upd]
  have HNW:=veil fun W (h:Goes w W lab a P n q T {M with S:=moveS n M.G M.S t.p t.g 1})=>h.now
  have HNV:Hid (∀W,Goes w W lab a P n q T (ready1 n M x)→vCa 47 #[vPt a.m] W fun e w'=>e= .returned (vU6 (M.nw:Int))∧Goes w w' lab a P n q T (ready1 n M x)):=fun W h=>h.nowG
  clear ht hst hnw hk
  rw[e2] at HST
  clear e2
  refine ge ?_
  go_wp2_with (first
   |(go_at_call 81;refine cH (HS.out _ H0.out) fun w1 HG1=> ?_))
  have c5:=HG1.out.core.c5
  have HT1:=veil (fun W (h:Goes w W lab a P n q T M)=>h.tr hx)
  clear d0 d1 d2 d3 d4 d5 d6 d7 d8 d9
  obtain⟨d0,d1⟩:w1.cell? (vAt a.th (x*10))=some (vI6 t.p)∧w1.cell? (vAt a.th (x*10+1))=some (vU3 (t.g:Int)):=HTT.out _ HG1.out
  go_region_held3 (fun w'=>w'.cell? (vAt a.m 5)=some (vPt a.tb)∧w'.cell? (vAt a.th (x*10))=some (vI6 t.p)∧w'.cell? (vAt a.th (x*10+1))=some (vU3 (t.g:Int)))
   (first|exact⟨HG2.out.core.c5,e0,e1⟩|go_keep)
   (first
    |(go_at_call 94;refine(HM.out _ (by exact gp HG1.out rfl rfl rfl rfl)).mono ?_;rintro e w2 ⟨⟨c,rfl⟩,hg⟩;have HG2:=veil hg;clear hg;obtain⟨⟨e0,e1,e2,e3,e4,e5,e6,e7,e8,e9⟩,fz⟩:=HFT.out _ HG2.out))
  go_upto_region 4 with (first
   |(go_at_call 47;refine cS (HNW.out _ HG2.out) ?_))
  have HG3:=veil (HR1.out _ HG2.out)
  clear e0 e1 e2 e3 e4 e5 e6 e7 e8 e9 fz
  generalize (w2.setCell (vAt a.th (x*10+9)) (vU6 (M.nw:Int))).setCell (vAt a.th (x*10+4)) (vU8 0)=w3 at*
  clear c4 c5 d0 d1
  go_upto_region 7 with (first
   |(go_at_call 42;refine cH (HST.out _ (by exact gp HG3.out rfl rfl rfl rfl)) fun w6 HG6=> ?_))
  have c8:=HG6.out.core.c8
  have c7:=HG6.out.core.c7
  go_region_held3 (fun w'=>w'.cell? (vAt a.m 8)=some (vPt a.pb)∧w'.cell? (vAt a.m 7)=some (vPt a.gb))
   (first|exact⟨HG8.out.core.c8,HG8.out.core.c7⟩|exact⟨HG7.out.core.c8,HG7.out.core.c7⟩|go_keep)
   (first
    |(go_at_call 83;refine cH (HK.out _ (by exact gp HG6.out rfl rfl rfl rfl)) fun w7 HG7=> ?_)
    |(go_at_call 96;refine(HP.out _ (by exact gp HG7.out rfl rfl rfl rfl)).mono ?_;rintro e w8 ⟨⟨c,rfl⟩,hg⟩;have HG8:=veil hg;clear hg))
  go_wp2
  go_end0
  exact⟨rfl,HG8.out⟩
 ·have HFV:Hid (∀W,Goes w W lab a P n q T (ready2 n M x)→W.cell? (vAt a.th (x*10+5))=some (vI6 t.sv)):=fun W h=>by
   have:=(h.tr hx).c5
   have e:(ready2 n M x).th x={t with sn:=M.nw,lf:=0}:=by unfold ready2 ready1;split<;>simp only[upd_same]<;>rw[ht]
   grind
  have hstb:((stOf M n t:Int) !=2)=true:=by grind
  have e2:ready2 n M x={ready1 n M x with sv:=Cb.wakL M.sv t.sv M.nw}:=by unfold ready2;grind
  have HWK:Hid (∀W (h:Goes w W lab a P n q T (ready1 n M x)),vCa 95 #[vPt a.sb,vI6 t.sv,vU6 (M.nw:Int)] W fun e w'=>(∃c:Int,e= .returned (vI6 c))∧Goes w w' lab a P n q T (ready2 n M x)):=fun W h=>by
   rw[e2];exact h.wake t.sv M.nw hnw
  have HST:Hid (∀W (h:Goes w W lab a P n q T (ready2 n M x)),vCa 42 #[vPt a.m] W fun e w'=>e=vRt #[]∧Goes w w' lab a P n q (T+n) (ready3 n M x)):=fun W h=>h.settle hT
  obtain⟨k,hk⟩: ∃k,Pi.keyA (ready3 n M x).gr.T (ready3 n M x).gr.L (x:Int)=k:=⟨_,rfl⟩
  have HK:Hid (∀W (h:Goes w W lab a P n q (T+n) (ready3 n M x)),vCa 83 #[vPt a.gb,vI6 (x:Int)] W fun e w'=>e= .returned (.agg (vKy k))∧Goes w w' lab a P n q (T+n) (ready3 n M x)):=fun W h=>by
   rw[←hk];exact h.key (x:Int)
  have HP:Hid (∀W (h:Goes w W lab a P n q (T+n) (ready3 n M x)),vCa 96 #[vPt a.pb,vI6 proc,vI6 (x:Int),.agg (vKy k)] W fun e w'=>(∃c:Int,e= .returned (vI6 c))∧Goes w w' lab a P n q (T+n+1) (Go.Proofs.YtnmhcgpnhlhcgaaGreatDoor.ready P n q M x proc)):=fun W h=>by
   unfold Go.Proofs.YtnmhcgpnhlhcgaaGreatDoor.ready
   have hok:=h.key_ok (x:Int)
   rw[hk] at hok⊢
   exact h.put hT proc (x:Int) k hok
  have HFT:Hid (∀W,Goes w W lab a P n q T {M with S:=moveS n M.G M.S t.p t.g 1}→TrAt W a.th (x*10) t∧ ∀o,W.frozen? (vAt a.th o)=false):=fun W h=>⟨by rw[←ht];exact h.tr hx,h.tfz⟩
  have HFR:Hid (∀W,Goes w W lab a P n q T (ready1 n M x)→W.cell? (vAt a.th (x*10+5))=some (vI6 t.sv)):=fun W h=>by
   have:=(h.tr hx).c5
   unfold ready1 at this
   grind[upd]
  have HNW:=veil fun W (h:Goes w W lab a P n q T {M with S:=moveS n M.G M.S t.p t.g 1})=>h.now
  have HNV:Hid (∀W,Goes w W lab a P n q T (ready1 n M x)→vCa 47 #[vPt a.m] W fun e w'=>e= .returned (vU6 (M.nw:Int))∧Goes w w' lab a P n q T (ready1 n M x)):=fun W h=>h.nowG
  clear ht hst hnw hk
  clear e2
  refine ge ?_
  go_wp2_with (first
   |(go_at_call 81;refine cH (HS.out _ H0.out) fun w1 HG1=> ?_))
  have c5:=HG1.out.core.c5
  have HT1:=veil (fun W (h:Goes w W lab a P n q T M)=>h.tr hx)
  clear d0 d1 d2 d3 d4 d5 d6 d7 d8 d9
  obtain⟨d0,d1⟩:w1.cell? (vAt a.th (x*10))=some (vI6 t.p)∧w1.cell? (vAt a.th (x*10+1))=some (vU3 (t.g:Int)):=HTT.out _ HG1.out
  go_region_held3 (fun w'=>w'.cell? (vAt a.m 5)=some (vPt a.tb)∧w'.cell? (vAt a.th (x*10))=some (vI6 t.p)∧w'.cell? (vAt a.th (x*10+1))=some (vU3 (t.g:Int)))
   (first|exact⟨HG2.out.core.c5,e0,e1⟩|go_keep)
   (first
    |(go_at_call 94;refine(HM.out _ (by exact gp HG1.out rfl rfl rfl rfl)).mono ?_;rintro e w2 ⟨⟨c,rfl⟩,hg⟩;have HG2:=veil hg;clear hg;obtain⟨⟨e0,e1,e2,e3,e4,e5,e6,e7,e8,e9⟩,fz⟩:=HFT.out _ HG2.out))
  go_upto_region 4 with (first
   |(go_at_call 47;refine cS (HNW.out _ HG2.out) ?_))
  have HG3:=veil (HR1.out _ HG2.out)
  clear e0 e1 e2 e3 e4 e5 e6 e7 e8 e9 fz
  generalize (w2.setCell (vAt a.th (x*10+9)) (vU6 (M.nw:Int))).setCell (vAt a.th (x*10+4)) (vU8 0)=w3 at*
  clear c4 c5 d0 d1
  go_upto_region 5 with fail
  have c6:=HG3.out.core.c6
  have k5:=HFR.out _ HG3.out
  go_region_held3 (fun w'=>w'.cell? (vAt a.m 6)=some (vPt a.sb)∧w'.cell? (vAt a.th (x*10+5))=some (vI6 t.sv))
   (first|exact⟨HG5.out.core.c6,HFV.out _ HG5.out⟩|exact⟨HG4.out.core.c6,HFR.out _ HG4.out⟩|go_keep)
   (first
    |(go_at_call 47;refine cH (HNV.out _ (by exact gp HG3.out rfl rfl rfl rfl)) fun w4 HG4=> ?_)
    |(go_at_call 95;refine(HWK.out _ (by exact gp HG4.out rfl rfl rfl rfl)).mono ?_;rintro e w5 ⟨⟨c,rfl⟩,hg⟩;have HG5:=veil hg;clear hg))
  clear c6 k5
  go_upto_region 7 with (first
   |(go_at_call 42;refine cH (HST.out _ (by exact gp HG5.out rfl rfl rfl rfl)) fun w6 HG6=> ?_))
  have c8:=HG6.out.core.c8
  have c7:=HG6.out.core.c7
  go_region_held3 (fun w'=>w'.cell? (vAt a.m 8)=some (vPt a.pb)∧w'.cell? (vAt a.m 7)=some (vPt a.gb))
   (first|exact⟨HG8.out.core.c8,HG8.out.core.c7⟩|exact⟨HG7.out.core.c8,HG7.out.core.c7⟩|go_keep)
   (first
    |(go_at_call 83;refine cH (HK.out _ (by exact gp HG6.out rfl rfl rfl rfl)) fun w7 HG7=> ?_)
    |(go_at_call 96;refine(HP.out _ (by exact gp HG7.out rfl rfl rfl rfl)).mono ?_;rintro e w8 ⟨⟨c,rfl⟩,hg⟩;have HG8:=veil hg;clear hg))
  go_wp2
  go_end0
  exact⟨rfl,HG8.out⟩
end
structure At (w W:World) (lab labk:Nat→Nat) (a:Ad) (P n q T:Nat) (M:Mc):Prop where
 i:IsMc W labk a P n q T M
 l:Lab w W lab labk
 f:Fr (fun k=>lab k≠0) w W
 z:0<w.heap.size
section
variable {w W W':World} {lab labk:Nat→Nat} {a:Ad} {P n q T T':Nat} {M M':Mc}
theorem At.goes (h:At w W lab labk a P n q T M):Goes w W lab a P n q T M:=⟨labk,h.i,h.l,h.f⟩
theorem IsMc.at0 (h:IsMc w lab a P n q T M):At w w lab lab a P n q T M:=⟨h,⟨fun _ _=>rfl,h.lt⟩,Fr.refl _ _,h.t0.pos⟩
theorem Goes.open (h:Goes w W lab a P n q T M) (hz:0<w.heap.size): ∃labk,At w W lab labk a P n q T M:=h.elim fun l q=>⟨l,q.1,q.2.1,q.2.2,hz⟩
theorem At.step (h:At w W lab labk a P n q T M) (g:Goes W W' labk a P n q T' M'): ∃lab',At w W' lab lab' a P n q T' M'∧(∀b,b<W.heap.size→lab' b=labk b)∧Fr (fun k=>labk k≠0) W W':=by
 obtain⟨l2,i2,b2,f2⟩:=g
 exact⟨l2,⟨i2,h.l.then b2 h.f.size,h.f.then f2 (fun k hk hn=>by rw[←h.l.old k hk];exact hn),h.z⟩,b2.old,f2⟩
theorem At.below (h:At w W lab labk a P n q T M) (hb:vBw W W'):At w W' lab labk a P n q T M:=
 ⟨h.i.below hb,⟨h.l.old,fun k hk=>Nat.lt_of_lt_of_le (h.l.lt k hk) hb.size⟩,h.f.then (ofBelow (S:=fun _=>False) hb) (by simp),h.z⟩
theorem At.new (h:At w W lab labk a P n q T M) (o:Obj):At w (W.alloc o) lab labk a P n q T M:=h.below bzA
theorem At.fresh (h:At w W lab labk a P n q T M) {k:Nat} (hk:W.heap.size≤k):labk k=0:=h.i.fresh hk
theorem At.like (h:At w W lab labk a P n q T M) (e1:W'.heap=W.heap) (e2:W'.os=W.os) (e3:W'.tape=W.tape) (e4:W'.output=W.output):At w W' lab labk a P n q T M:=
 h.below mK
theorem At.drew (h:At w W lab labk a P n q T M):At w W.drew lab labk a P n q T M:=h.like rfl rfl rfl rfl
theorem drew_blk (w:World) (k:Nat):w.drew.heap[k]? =w.heap[k]? :=rfl
theorem At.set (h:At w W lab labk a P n q T M) {b:Nat} (hb:w.heap.size≤b) (hl:labk b=0) (o:Nat) (u:Value):At w (W.setCell (vAt b o) u) lab labk a P n q T M:=by
 have hpos:=h.z
 have hf:Fr (fun k=>k=b) W (W.setCell (vAt b o) u):=(Fr.refl (fun k=>k=b) W).setCell (a:=(vAt b o)) rfl _
 refine⟨h.i.frame hf (by grind) (by omega),⟨h.l.old,fun k hk=>by simpa using h.l.lt k hk⟩,h.f.then hf (by omega),h.z⟩
theorem Fr.box {w W:World} {lab:Nat→Nat} (hf:Fr (fun k=>lab k≠0) w W) {b:Nat} (hl:lab b=0) (hb:b<w.heap.size):W.heap[b]? =w.heap[b]? :=hf.block b hb (fun q=>q hl)
def freeOf (M:Mc) (n:Nat):Option Nat:=((Gt.pl M.S true n n).head?).map (·.val)
def allocM (M:Mc) (x:Nat):Mc:={M with G:=upd M.G x (M.G x+1),S:=upd M.S x 1}
def gok (M:Mc) (n:Nat):Prop:= ∀x,x<n→M.G x+1<4294967296
theorem freeOf_lt {x:Nat} (h:freeOf M n=some x):x<n:=by
 unfold freeOf at h
 obtain⟨y,_,rfl⟩:=Option.map_eq_some_iff.1 h
 omega
theorem IsMc.alloc (h:IsMc w lab a P n q T M) (hG:gok M n):
  vCa 99 #[vPt a.tb] w fun e w'=>
   (∃x,freeOf M n=some x∧e=vRt #[.agg #[vI6 (x:Int),vU3 ((M.G x+1:Nat):Int)],vI6 0]∧Goes w w' lab a P n q T (allocM M x))∨
   (freeOf M n=none∧e=vRt #[.agg #[vI6 0,vU3 0],vI6 4]∧vBw w w'):=by
 refine(callsIn_wide.1 (Gt.alloc_in a.tb a.tg n M.G M.S w h.tb hG)).mono ?_
 rintro e w' (⟨x,hx,rfl,hr,hf⟩|⟨hx,rfl,hb⟩)
 ·refine .inl ⟨x.val,?_,rfl,?_⟩
  ·obtain⟨l,hl⟩:=hx
   unfold freeOf
   grind
  ·have h5:Fr (fun k=>lab k=5) w w':=(ofGt hf).to (fun k _ hk=>by rw[hk];exact h.ltb.2)
   exact⟨lab,h.toTab (h.same h5) h5 hr,h.same h5,h5.to (by omega)⟩
 grind[freeOf]
theorem IsMc.setTr (h:IsMc w lab a P n q T M) {x:Nat} (hx:x<n) (t:Tr) (hok:t.ok) (ht:TrAt W a.th (x*10) t) (hf:Fr (fun k=>k=a.th) w W) (hfar: ∀j,j<n→j≠x→TrAt W a.th (j*10) (M.th j)) (hfz: ∀o,W.frozen? (vAt a.th o)=false):IsMc W lab a P n q T {M with th:=upd M.th x t}:=by
 have h4:Fr (fun k=>lab k=4) w W:=hf.to (fun k _ hk=>by rw[hk];exact h.lth)
 exact h.toTh (h.same h4) h4 (h.th.put ht hok hfar hfz)
def tenW (w:World) (b o:Nat) (t:Tr):World:=((((((((((w.setCell (vAt b o) (vI6 t.p)).setCell (vAt b (o+1)) (vU3 (t.g:Int))).setCell (vAt b (o+2)) (vI6 t.pg)).setCell (vAt b (o+3)) (vU8 (t.lv:Int))).setCell (vAt b (o+4)) (vU8 (t.lf:Int))).setCell (vAt b (o+5)) (vI6 t.sv)).setCell (vAt b (o+6)) (vI6 t.pc)).setCell (vAt b (o+7)) (vI6 t.ia)).setCell (vAt b (o+8)) (vI6 t.il)).setCell (vAt b (o+9)) (vU6 (t.sn:Int)))
theorem ten_at {b o:Nat} {t0:Tr} (h:TrAt w b o t0) (t:Tr):TrAt (tenW w b o t) b o t:=((((((((((h.set_p t.p).set_g t.g).set_pg t.pg).set_lv t.lv).set_lf t.lf).set_sv t.sv).set_pc t.pc).set_ia t.ia).set_il t.il).set_sn t.sn)
theorem ten_fr (w:World) (b o:Nat) (t:Tr):Fr (fun k=>k=b) w (tenW w b o t):=by
 unfold tenW
 exact((((((((((Fr.refl (fun k=>k=b) w).setCell (a:=(vAt b o)) rfl _).setCell (a:=(vAt b (o+1))) rfl _).setCell (a:=(vAt b (o+2))) rfl _).setCell (a:=(vAt b (o+3))) rfl _).setCell (a:=(vAt b (o+4))) rfl _).setCell (a:=(vAt b (o+5))) rfl _).setCell (a:=(vAt b (o+6))) rfl _).setCell (a:=(vAt b (o+7))) rfl _).setCell (a:=(vAt b (o+8))) rfl _).setCell (a:=(vAt b (o+9))) rfl _
theorem ten_blk (w:World) (b o:Nat) (t:Tr) (k:Nat) (hk:k≠b):(tenW w b o t).heap[k]? =w.heap[k]? :=by
 unfold tenW
 exact(Below.heap_setCell _ _ _ _ hk).trans ((Below.heap_setCell _ _ _ _ hk).trans ((Below.heap_setCell _ _ _ _ hk).trans ((Below.heap_setCell _ _ _ _ hk).trans ((Below.heap_setCell _ _ _ _ hk).trans ((Below.heap_setCell _ _ _ _ hk).trans ((Below.heap_setCell _ _ _ _ hk).trans ((Below.heap_setCell _ _ _ _ hk).trans ((Below.heap_setCell _ _ _ _ hk).trans ((Below.heap_setCell _ _ _ _ hk))))))))))
theorem ten_far {b o o':Nat} {t t':Tr} (h:TrAt w b o t) (ho:o'+10≤o∨o+10≤o'):TrAt (tenW w b o' t') b o t:=by
 unfold tenW
 exact((((((((((h.far (by omega) _).far (by omega) _).far (by omega) _).far (by omega) _).far (by omega) _).far (by omega) _).far (by omega) _).far (by omega) _).far (by omega) _).far (by omega) _)
theorem ten_fz {b o:Nat} {t:Tr} (h: ∀o,w.frozen? (vAt b o)=false): ∀o',(tenW w b o t).frozen? (vAt b o')=false:=fun o'=>by
 unfold tenW
 simp_all
theorem IsMc.ten (h:IsMc w lab a P n q T M) {x:Nat} (hx:x<n) (t:Tr) (hok:t.ok):IsMc (tenW w a.th (x*10) t) lab a P n q T {M with th:=upd M.th x t}:=
 h.setTr hx t hok (ten_at (h.th.at_ x hx) t) (ten_fr _ _ _ _) (fun j hj hne=>ten_far (h.th.at_ j hj) (by omega)) (ten_fz h.th.fz)
theorem At.ten (h:At w W lab labk a P n q T M) {x:Nat} (hx:x<n) (t:Tr) (hok:t.ok):At w (Go.Proofs.YtnmhcgpnhlhcgaaGreatDoor.tenW W a.th (x*10) t) lab labk a P n q T {M with th:=upd M.th x t}:=by
 have hf:=ten_fr W a.th (x*10) t
 refine⟨h.i.ten hx t hok,⟨h.l.old,fun k hk=>Nat.lt_of_lt_of_le (h.l.lt k hk) hf.size⟩,h.f.then hf (fun k hk e=> ?_),h.z⟩
 rw[←h.l.old k hk,e,h.i.lth];decide
end
structure Ev where
 k:Int
 p:Int
 x:Int
 g:Nat
 r:Int
 e:Int
structure EvAt (w:World) (b:Nat) (v:Ev):Prop where
 c0:w.cell? (vA0 b)=some (vI6 v.k)
 c1:w.cell? (vAt b 1)=some (vI6 v.p)
 c2:w.cell? (vAt b 2)=some (vI6 v.x)
 c3:w.cell? (vAt b 3)=some (vU3 (v.g:Int))
 c4:w.cell? (vAt b 4)=some (vI6 v.r)
 c5:w.cell? (vAt b 5)=some (vI6 v.e)
 fz: ∀o,w.frozen? (vAt b o)=false
theorem EvAt.kept {w w':World} {b:Nat} {v:Ev} (h:EvAt w b v) (hb:w'.heap[b]? =w.heap[b]?):EvAt w' b v:=
 have e: ∀o,w'.cell? (vAt b o)=w.cell? (vAt b o):=fun _=>World.cell?_of_block hb
 ⟨(e _).trans h.c0,(e _).trans h.c1,(e _).trans h.c2,(e _).trans h.c3,(e _).trans h.c4,(e _).trans h.c5,fun o=>(World.frozen?_of_block hb).trans (h.fz o)⟩
theorem EvAt.lt {w:World} {b:Nat} {v:Ev} (h:EvAt w b v):b<w.heap.size:=World.block_lt_of_cell? w _ h.c0
theorem EvAt.new (w:World):EvAt (w.alloc (.cells #[vI6 0,vI6 0,vI6 0,vU3 0,vI6 0,vI6 0] 80)) w.heap.size ⟨0,0,0,0,0,0⟩:=
 ⟨(by simp),(by simp),(by simp),(by simp),(by simp),(by simp),fun o=>(by simp)⟩
structure BxAt (w:World) (b:Nat) (t:Tr):Prop where
 c:TrAt w b 0 t
 fz: ∀o,w.frozen? (vAt b o)=false
theorem BxAt.kept {w w':World} {b:Nat} {t:Tr} (h:BxAt w b t) (hb:w'.heap[b]? =w.heap[b]?):BxAt w' b t:=⟨h.c.kept hb,fun o=>(World.frozen?_of_block hb).trans (h.fz o)⟩
theorem BxAt.lt {w:World} {b:Nat} {t:Tr} (h:BxAt w b t):b<w.heap.size:=World.block_lt_of_cell? w _ h.c.c0
theorem BxAt.new (w:World) (t:Tr):BxAt (w.alloc (.cells #[.int .i64 t.p,.int .u32 (t.g:Int),.int .i64 t.pg,.int .u8 (t.lv:Int),.int .u8 (t.lf:Int),.int .i64 t.sv,.int .i64 t.pc,.int .i64 t.ia,.int .i64 t.il,.int .u64 (t.sn:Int)] 130)) w.heap.size t:=⟨TrAt.new w t,fun o=>(by simp)⟩
noncomputable def beginM (P n q:Nat) (M:Mc) (x:Nat) (proc:Int) (t:Tr):Mc:=ready P n q {allocM M x with th:=upd M.th x {t with p:=(x:Int),g:=M.G x+1}} x proc
section
variable {w W W':World} {lab labk:Nat→Nat} {a:Ad} {P n q T T':Nat} {M M':Mc}
theorem IsMc.begin_yes (h:IsMc w lab a P n q T M) (hT:T+n≤1000000000) (hG:gok M n) (proc:Int) (t:Tr) (tok:t.ok) (x:Nat) (hf:freeOf M n=some x):
  vCa 55 #[vPt a.m,vI6 proc,.agg #[.int .i64 t.p,.int .u32 (t.g:Int),.int .i64 t.pg,.int .u8 (t.lv:Int),.int .u8 (t.lf:Int),.int .i64 t.sv,.int .i64 t.pc,.int .i64 t.ia,.int .i64 t.il,.int .u64 (t.sn:Int)]] w fun e w'=>e=vRt #[.agg #[vI6 9,vI6 proc,vI6 (x:Int),vU3 ((M.G x+1:Nat):Int),vI6 t.pg,vI6 0],vI6 0]∧Goes w w' lab a P n q (T+n+1) (beginM P n q M x proc t):=by
 have hx:=freeOf_lt hf
 have hx':(x:Int)<(n:Int):=by omega
 have hgx:=hG x hx
 obtain⟨g,hg⟩: ∃g,M.G x+1=g:=⟨_,rfl⟩
 have hbw1:vBw w (w.alloc (.cells #[.int .i64 t.p,.int .u32 (t.g:Int),.int .i64 t.pg,.int .u8 (t.lv:Int),.int .u8 (t.lf:Int),.int .i64 t.sv,.int .i64 t.pc,.int .i64 t.ia,.int .i64 t.il,.int .u64 (t.sn:Int)] 130)):=bzA
 have hbw:vBw w ((w.alloc (.cells #[.int .i64 t.p,.int .u32 (t.g:Int),.int .i64 t.pg,.int .u8 (t.lv:Int),.int .u8 (t.lf:Int),.int .i64 t.sv,.int .i64 t.pc,.int .i64 t.ia,.int .i64 t.il,.int .u64 (t.sn:Int)] 130)).alloc (.cells #[vI6 0,vI6 0,vI6 0,vU3 0,vI6 0,vI6 0] 80)):=hbw1.alloc (by simp) _
 have A0:=h.at0.below hbw
 have kb:BxAt ((w.alloc (.cells #[.int .i64 t.p,.int .u32 (t.g:Int),.int .i64 t.pg,.int .u8 (t.lv:Int),.int .u8 (t.lf:Int),.int .i64 t.sv,.int .i64 t.pc,.int .i64 t.ia,.int .i64 t.il,.int .u64 (t.sn:Int)] 130)).alloc (.cells #[vI6 0,vI6 0,vI6 0,vU3 0,vI6 0,vI6 0] 80)) w.heap.size t:=(BxAt.new w t).kept (bzA.block _ (BxAt.new w t).lt)
 have ke:=EvAt.new (w.alloc (.cells #[.int .i64 t.p,.int .u32 (t.g:Int),.int .i64 t.pg,.int .u8 (t.lv:Int),.int .u8 (t.lf:Int),.int .i64 t.sv,.int .i64 t.pc,.int .i64 t.ia,.int .i64 t.il,.int .u64 (t.sn:Int)] 130))
 rw[show(w.alloc (.cells #[.int .i64 t.p,.int .u32 (t.g:Int),.int .i64 t.pg,.int .u8 (t.lv:Int),.int .u8 (t.lf:Int),.int .i64 t.sv,.int .i64 t.pc,.int .i64 t.ia,.int .i64 t.il,.int .u64 (t.sn:Int)] 130)).heap.size=w.heap.size+1 by simp] at ke
 have hl0:=h.fresh lzr
 have hl1:lab (w.heap.size+1)=0:=h.fresh (by omega)
 clear h hbw hbw1
 generalize hW:(w.alloc (.cells #[.int .i64 t.p,.int .u32 (t.g:Int),.int .i64 t.pg,.int .u8 (t.lv:Int),.int .u8 (t.lf:Int),.int .i64 t.sv,.int .i64 t.pc,.int .i64 t.ia,.int .i64 t.il,.int .u64 (t.sn:Int)] 130)).alloc (.cells #[vI6 0,vI6 0,vI6 0,vU3 0,vI6 0,vI6 0] 80)=W0 at*
 have HW:=veil hW
 clear hW
 have c5:=A0.i.co.c5
 have HAL:Hid (vCa 99 #[vPt a.tb] W0 fun e w'=>e=vRt #[.agg #[vI6 (x:Int),vU3 (g:Int)],vI6 0]∧ ∃lab1,At w w' lab lab1 a P n q T (allocM M x)∧lab1 w.heap.size=0∧lab1 (w.heap.size+1)=0∧BxAt w' w.heap.size t∧EvAt w' (w.heap.size+1) ⟨0,0,0,0,0,0⟩):=by
  refine(A0.i.alloc hG).mono ?_
  rintro e w' (⟨y,hy,rfl,hgo⟩|⟨hy,_⟩)
  ·rw[hf] at hy
   injection hy with hy
   subst hy
   rw[hg]
   obtain⟨lab1,A1,ho,hfr⟩:=A0.step hgo
   exact⟨rfl,lab1,A1,(ho _ kb.lt).trans hl0,(ho _ ke.lt).trans hl1,kb.kept (hfr.box hl0 kb.lt),ke.kept (hfr.box hl1 ke.lt)⟩
  grind
 refine ge ?_
 go_upto_region 1 with fail
 rw[HW.out]
 go_upto_region 4 with (first
  |(go_at_call 99;refine(HAL.out).mono ?_;rintro e w1 ⟨rfl,lab1,A1,hm0,hm1,kb1,ke1⟩;have HA1:=veil A1;have HM0:=veil hm0;have HM1:=veil hm1;have HKB:=veil kb1;have HKE:=veil ke1;clear A1 hm0 hm1 kb1 ke1))
 have hlt0:=HKE.out.lt
 have hb1:vBw w1 (w1.alloc (.cells #[vI6 (x:Int),vU3 (g:Int)] 76)):=bzA
 have A1:=HA1.out.below hb1
 have hm2:=HA1.out.fresh lzr
 have i0:=newc w1 #[vI6 (x:Int),vU3 (g:Int)] 76 0 _ rfl
 have i1:=newc w1 #[vI6 (x:Int),vU3 (g:Int)] 76 1 _ rfl
 have kb1:=HKB.out.kept (hb1.block _ HKB.out.lt)
 have ke1:=HKE.out.kept (hb1.block _ HKE.out.lt)
 clear HA1 HKB HKE HAL hb1 kb ke A0 c5
 generalize w1.alloc (.cells #[vI6 (x:Int),vU3 (g:Int)] 76)=W1 at*
 generalize w1.heap.size=ib at*
 have hne0: ¬w.heap.size=ib:=by omega
 have hne1: ¬ib=w.heap.size:=by omega
 have A2:=(A1.set (Nat.le_refl w.heap.size) HM0.out 0 (vI6 (x:Int))).set (Nat.le_refl w.heap.size) HM0.out 1 (vU3 (g:Int))
 have kb2:BxAt ((W1.setCell (vA0 w.heap.size) (vI6 (x:Int))).setCell (vAt w.heap.size 1) (vU3 (g:Int))) w.heap.size {t with p:=(x:Int),g:=g}:=⟨(kb1.c.set_p (x:Int)).set_g g,fun o=>by rw[frozen_set,frozen_set];exact kb1.fz o⟩
 have hbl: ∀b,b≠w.heap.size→((W1.setCell (vA0 w.heap.size) (vI6 (x:Int))).setCell (vAt w.heap.size 1) (vU3 (g:Int))).heap[b]? =W1.heap[b]? :=fun b hb=>(Below.heap_setCell _ _ _ _ hb).trans (Below.heap_setCell _ _ _ _ hb)
 have ke2:=ke1.kept (hbl (w.heap.size+1) (by omega))
 have j0:=(World.cell?_of_block (hbl ib hne1)).trans i0
 have j1:=(World.cell?_of_block (hbl ib hne1)).trans i1
 have q0:=kb1.c.c0
 have q1:=kb1.c.c1
 have qf:=kb1.fz
 clear hbl ke1 kb1 A1
 go_upto_region 5 with fail
 clear i0 i1 q0 q1 qf
 generalize (W1.setCell (vA0 w.heap.size) (vI6 (x:Int))).setCell (vAt w.heap.size 1) (vU3 (g:Int))=W2 at*
 obtain⟨t',ht'⟩: ∃t':Tr,({t with p:=(x:Int),g:=g}:Tr)=t':=⟨_,rfl⟩
 have tok':t'.ok:=by rw[←ht'];exact⟨by grind,tok.lv,tok.lf,tok.il,tok.sn⟩
 obtain⟨W3,hW3⟩: ∃W3,(tenW W2 a.th (x*10) t').drew=W3:=⟨_,rfl⟩
 have A3:At w W3 lab lab1 a P n q T {allocM M x with th:=upd (allocM M x).th x t'}:=by rw[←hW3];exact(A2.ten hx t' tok').drew
 rw[ht'] at kb2
 have hnat: ∀b,lab1 b=0→b≠a.th:=fun b hb e=>by rw[e,A2.i.lth] at hb;cases hb
 have hbl: ∀b,lab1 b=0→W3.heap[b]? =W2.heap[b]? :=fun b hb=>by rw[←hW3,drew_blk];exact ten_blk W2 a.th (x*10) t' b (hnat b hb)
 have kb3:=kb2.kept (hbl _ HM0.out)
 have ke3:=ke2.kept (hbl _ HM1.out)
 have l0:=(World.cell?_of_block (hbl ib hm2)).trans j0
 have l1:=(World.cell?_of_block (hbl ib hm2)).trans j1
 unfold tenW at hW3
 have HW3:=veil hW3
 clear hW3
 obtain⟨d0,d1,d2,d3,d4,d5,d6,d7,d8,d9⟩:=A2.i.th.at_ x hx
 have fz:=A2.i.th.fz
 have c4:=A2.i.co.c4
 have hbm: ¬a.th=w.heap.size:=fun e=>hnat _ HM0.out e.symm
 have hbm':=hnat _ HM0.out
 have HA3:=veil A3
 have HB3:=veil kb3
 have HE3:=veil ke3
 have HL0:=veil l0
 have HL1:=veil l1
 have HT':=veil ht'
 clear A2 A3 kb3 ke3 l0 l1 hbl ke2 hnat
 obtain⟨⟨s0,s1,s2,s3,s4,s5,s6,s7,s8,s9⟩,sf⟩:=kb2
 clear ht' tok' tok
 have hba: ¬a.m=a.th:=fun e=>by have h1:=HA3.out.i.lm;have h2:=HA3.out.i.lth;grind
 have hba': ¬a.th=a.m:=fun e=>hba e.symm
 have hbi: ¬ib=a.th:=fun e=>by have h2:=HA3.out.i.lth;grind
 have hbi': ¬a.th=ib:=fun e=>hbi e.symm
 have HM2:=veil hm2
 clear hm2 hG hgx hlt0 hl0 hl1 HW hf
 go_region_held3 (fun w'=>w'.cell? (vAt a.m 4)=some (.slice (some (vA0 a.th)) n a.xt)∧w'.cell? (vA0 ib)=some (vI6 (x:Int))∧w'.cell? (vA0 w.heap.size)=some (vI6 t'.p)∧w'.cell? (vAt w.heap.size 1)=some (vU3 (t'.g:Int))∧w'.cell? (vAt w.heap.size 2)=some (vI6 t'.pg)∧w'.cell? (vAt w.heap.size 3)=some (vU8 (t'.lv:Int))∧w'.cell? (vAt w.heap.size 4)=some (vU8 (t'.lf:Int))∧w'.cell? (vAt w.heap.size 5)=some (vI6 t'.sv)∧w'.cell? (vAt w.heap.size 6)=some (vI6 t'.pc)∧w'.cell? (vAt w.heap.size 7)=some (vI6 t'.ia)∧w'.cell? (vAt w.heap.size 8)=some (vI6 t'.il)∧w'.cell? (vAt w.heap.size 9)=some (vU6 (t'.sn:Int)))
  (go_keep)
  (first|fail)
 rw[HW3.out]
 clear HW3 d0 d1 d2 d3 d4 d5 d6 d7 d8 d9 s0 s1 s2 s3 s4 s5 s6 s7 s8 s9 sf fz c4 j0 j1 hba hba' hbi hbi' hbm hbm' hne0 hne1
 have hgM:ready P n q {allocM M x with th:=upd (allocM M x).th x t'} x proc=beginM P n q M x proc t:=by
  unfold beginM
  rw[←HT'.out,←hg]
  rfl
 have HRD:Hid (vCa 50 #[vPt a.m,vI6 (x:Int),vI6 proc] W3 fun e w'=>e=vRt #[]∧ ∃lab2,At w w' lab lab2 a P n q (T+n+1) (beginM P n q M x proc t)∧lab2 (w.heap.size+1)=0∧(w'.cell? (vA0 ib)=some (vI6 (x:Int))∧w'.cell? (vAt ib 1)=some (vU3 (g:Int)))∧BxAt w' w.heap.size t'∧EvAt w' (w.heap.size+1) ⟨0,0,0,0,0,0⟩):=by
  refine(HA3.out.i.goes.ready hT x hx proc).mono ?_
  rintro e w' ⟨rfl,hgo⟩
  rw[hgM] at hgo
  obtain⟨lab2,A4,ho,hfr⟩:=HA3.out.step hgo
  exact⟨rfl,lab2,A4,(ho _ HE3.out.lt).trans HM1.out,⟨hfr.keep HM2.out HL0.out,hfr.keep HM2.out HL1.out⟩,HB3.out.kept (hfr.box HM0.out HB3.out.lt),HE3.out.kept (hfr.box HM1.out HE3.out.lt)⟩
 have l0:=HL0.out
 have HPG:Hid (t'.pg=t.pg):=by rw[←HT'.out];exact rfl
 clear hgM
 go_wp2_with (first
  |(go_at_call 50;refine(HRD.out).mono ?_;rintro e w4 ⟨rfl,lab2,A4,hm1,⟨m0,m1⟩,⟨⟨_,_,b2,_,_,_,_,_,_,_⟩,_⟩,⟨e0,e1,e2,e3,e4,e5,ef⟩⟩;have HA4:=veil A4;have HM4:=veil hm1;clear A4 hm1))
 have A5:=(((((HA4.out.set (b:=w.heap.size+1) (by omega) HM4.out 0 (vI6 9)).set (b:=w.heap.size+1) (by omega) HM4.out 1 (vI6 proc)).set (b:=w.heap.size+1) (by omega) HM4.out 2 (vI6 (x:Int))).set (b:=w.heap.size+1) (by omega) HM4.out 3 (vU3 (g:Int))).set (b:=w.heap.size+1) (by omega) HM4.out 4 (vI6 t'.pg)).set (b:=w.heap.size+1) (by omega) HM4.out 5 (vI6 0)
 rw[HPG.out] at A5⊢
 have HA5:=veil A5.goes
 clear A5 HA4 HA3
 rw[hg]
 simp[bodyPost,results,Tryz.results55,go_sem,e0,e1,e2,e3,e4,e5]
 exact HA5.out
theorem IsMc.begin_no (h:IsMc w lab a P n q T M) (hG:gok M n) (proc:Int) (t:Tr) (hf:freeOf M n=none):
  vQ 55 #[vPt a.m,vI6 proc,.agg #[.int .i64 t.p,.int .u32 (t.g:Int),.int .i64 t.pg,.int .u8 (t.lv:Int),.int .u8 (t.lf:Int),.int .i64 t.sv,.int .i64 t.pc,.int .i64 t.ia,.int .i64 t.il,.int .u64 (t.sn:Int)]] w (.tuple #[.agg #[vI6 0,vI6 0,vI6 0,vU3 0,vI6 0,vI6 0],vI6 4]):=by
 have hbw1:vBw w (w.alloc (.cells #[.int .i64 t.p,.int .u32 (t.g:Int),.int .i64 t.pg,.int .u8 (t.lv:Int),.int .u8 (t.lf:Int),.int .i64 t.sv,.int .i64 t.pc,.int .i64 t.ia,.int .i64 t.il,.int .u64 (t.sn:Int)] 130)):=bzA
 have hbw:vBw w ((w.alloc (.cells #[.int .i64 t.p,.int .u32 (t.g:Int),.int .i64 t.pg,.int .u8 (t.lv:Int),.int .u8 (t.lf:Int),.int .i64 t.sv,.int .i64 t.pc,.int .i64 t.ia,.int .i64 t.il,.int .u64 (t.sn:Int)] 130)).alloc (.cells #[vI6 0,vI6 0,vI6 0,vU3 0,vI6 0,vI6 0] 80)):=hbw1.alloc (by simp) _
 have h0:=h.below hbw
 have ke:=EvAt.new (w.alloc (.cells #[.int .i64 t.p,.int .u32 (t.g:Int),.int .i64 t.pg,.int .u8 (t.lv:Int),.int .u8 (t.lf:Int),.int .i64 t.sv,.int .i64 t.pc,.int .i64 t.ia,.int .i64 t.il,.int .u64 (t.sn:Int)] 130))
 rw[show(w.alloc (.cells #[.int .i64 t.p,.int .u32 (t.g:Int),.int .i64 t.pg,.int .u8 (t.lv:Int),.int .u8 (t.lf:Int),.int .i64 t.sv,.int .i64 t.pc,.int .i64 t.ia,.int .i64 t.il,.int .u64 (t.sn:Int)] 130)).heap.size=w.heap.size+1 by simp] at ke
 have HBW:=veil hbw
 clear h hbw hbw1
 generalize hW:(w.alloc (.cells #[.int .i64 t.p,.int .u32 (t.g:Int),.int .i64 t.pg,.int .u8 (t.lv:Int),.int .u8 (t.lf:Int),.int .i64 t.sv,.int .i64 t.pc,.int .i64 t.ia,.int .i64 t.il,.int .u64 (t.sn:Int)] 130)).alloc (.cells #[vI6 0,vI6 0,vI6 0,vU3 0,vI6 0,vI6 0] 80)=W0 at*
 have HW:=veil hW
 clear hW
 have c5:=h0.co.c5
 have HAL:Hid (vCa 99 #[vPt a.tb] W0 fun e w'=>e=vRt #[.agg #[vI6 0,vU3 0],vI6 4]∧vBw w w'∧EvAt w' (w.heap.size+1) ⟨0,0,0,0,0,0⟩):=by
  refine(h0.alloc hG).mono ?_
  grind[bt,RowKit.Hid.out,EvAt.kept,RowKit.Below.block,EvAt.lt]
 clear h0 ke
 refine ge ?_
 go_upto_region 1 with fail
 rw[HW.out]
 go_upto_region 3 with (first
  |(go_at_call 99;refine cI HAL.out fun w1 HB1 HKE=> ?_))
 have hb2:vBw w (w1.alloc (.cells #[vI6 0,vU3 0] 76)):=HB1.out.alloc HB1.out.size _
 have ke2:=HKE.out.kept (((Below.refl w1.heap.size w1).alloc lzr (.cells #[vI6 0,vU3 0] 76)).block _ HKE.out.lt)
 generalize w1.alloc (.cells #[vI6 0,vU3 0] 76)=W1 at*
 obtain⟨e0,e1,e2,e3,e4,e5,ef⟩:=ke2
 have HB2:=veil hb2
 clear hb2 HB1 HKE HAL
 go_wp2
 simp[bodyPost,results,Tryz.results55,go_sem,e0,e1,e2,e3,e4,e5]
 grind[bset,RowKit.Hid.out]
end
def evOne (v:Ev):List Value:=[vI6 v.k,vI6 v.p,vI6 v.x,vU3 (v.g:Int),vI6 v.r,vI6 v.e]
def evCells (l:List Ev):List Value:=l.flatMap evOne
def EvL (w:World) (base:Nat) (v:Value) (l:List Ev):Prop:=w.ownsRow base 80 6 v l.length (evCells l)
theorem EvL.nil (w:World) (base:Nat):EvL w base (.slice none 0 0) []:=⟨rfl,(by simp)⟩
theorem EvL.one (w:World) (base:Nat) (hb:base≤w.heap.size) (v:Ev):EvL (w.alloc (.cells #[vI6 v.k,vI6 v.p,vI6 v.x,vU3 (v.g:Int),vI6 v.r,vI6 v.e] 80)) base (.slice (some (vA0 w.heap.size)) 1 1) [v]:=by
 refine⟨rfl,.inr ⟨w.heap.size,1,_,rfl,hb,(MapKept.heap_alloc w _).1,lzr,by decide,rfl,rfl⟩⟩
theorem EvL.below {w w':World} {base:Nat} {v:Value} {l:List Ev} (h:EvL w base v l) (hb:vBw w w'):EvL w' base v l:=by
 refine row_keptF h (fun k hk=>hb.block k ?_)
 obtain⟨h1,⟨hv,_⟩|⟨g,cap,cells,hv,h3,h4,h5⟩⟩:=h
 ·rw[hv] at hk;cases hk
 ·rw[hv] at hk
  injection hk with hk
  grind
section
variable {w W W':World} {lab labk:Nat→Nat} {a:Ad} {P n q T T':Nat} {M M':Mc}
theorem Prs.form {w:World} {v:Value} {l:List Pm} {vs:List Value} (h:Prs w lab v l vs): ∃ad cap,v= .slice ad l.length cap:=by
 obtain⟨h1,⟨hv,hz⟩|⟨g,cap,cells,hv,_⟩⟩:=h.row
 ·grind
 grind
def hasPg (M:Mc) (p:Int):Bool:=decide (0≤p)&&decide (p<(M.pr.length:Int))
theorem IsMc.hasProg (h:IsMc w lab a P n q T M) (p:Int):
  vS 53 #[vPt a.m,vI6 p] w (.bool (hasPg M p)):=by
 obtain⟨v,vs,c2,hp⟩:=h.pg
 obtain⟨ad,cap,rfl⟩:=hp.form
 clear h hp
 unfold hasPg
 generalize M.pr.length=len at*
 by_cases h0:0≤p
 ·have d0:=decide_eq_true h0
  rw[d0]
  refine ge ?_
  go_wp2
  go_ret
  simp
 ·have d0:=decide_eq_false h0
  rw[d0]
  refine ge ?_
  go_wp2
  go_ret
  simp
def hasPc (P:Nat) (p:Int):Bool:=decide (0≤p)&&decide (p<(P:Int))
theorem IsMc.hasProc (h:IsMc w lab a P n q T M) (p:Int):
  vS 40 #[vPt a.m,vI6 p] w (.bool (hasPc P p)):=by
 have c3:=h.co.c3
 clear h
 unfold hasPc
 by_cases h0:0≤p
 ·have d0:=decide_eq_true h0
  rw[d0]
  refine ge ?_
  go_wp2
  go_ret
  simp
 ·have d0:=decide_eq_false h0
  rw[d0]
  refine ge ?_
  go_wp2
  go_ret
  simp
theorem IsMc.slen (h:IsMc w lab a P n q T M):
  vS 54 #[vPt a.sb] w (vI6 (M.sv.length:Int)):=by
 grind[IsMc.sv,Cb.len_ok]
def newTr (pg:Int) (lv:Nat) (sv:Int):Tr:=⟨0,0,pg,lv,0,sv,0,0,0,0⟩
def startNo (M:Mc) (pg sv:Int):Bool:= !hasPg M pg||decide (sv< -1)||decide ((M.sv.length:Int)≤sv)
noncomputable def startM (P n q:Nat) (M:Mc) (x:Nat) (pg:Int) (lv:Nat) (sv:Int):Mc:=settle (beginM P n q M x 0 (newTr pg lv sv)) n
theorem IsMc.start_no (h:IsMc w lab a P n q T M) (pg:Int) (lv:Int) (sv:Int) (hno:startNo M pg sv=true):
  vS 20 #[vPt a.m,vI6 pg,vU8 lv,vI6 sv] w (.tuple #[.slice none 0 0,vI6 2]):=by
 have HP:=veil (h.hasProg pg)
 have HL:=veil h.slen
 have c6:=h.co.c6
 unfold startNo at hno
 clear h
 generalize M.sv.length=len at*
 cases hp:hasPg M pg with
 |false=>
  rw[hp] at HP
  refine ge ?_
  go_wp2_with (first
   |(go_at_call 53;refine(HP.out).mono ?_;rintro e w1 ⟨rfl,hw⟩;subst hw))
  go_ret2
  simp
 |true=>
  rw[hp] at HP
  by_cases h1:sv< -1
  ·have d1:=decide_eq_true h1
   refine ge ?_
   go_wp2_with (first
    |(go_at_call 53;refine(HP.out).mono ?_;rintro e w1 ⟨rfl,hw⟩;subst hw))
   go_ret2
   simp
  ·have d1:=decide_eq_false h1
   have h2:(len:Int)≤sv:=by
    grind
   have d2:=decide_eq_true h2
   refine ge ?_
   go_wp2_with (first
    |(go_at_call 53;refine cS HP.out ?_)
    |(go_at_call 54;refine cS HL.out ?_))
   go_ret2
   simp
end
section
variable {w W W':World} {lab labk:Nat→Nat} {a:Ad} {P n q T T':Nat} {M M':Mc}
theorem buildTr (x y z:Int) (w:World):(Instr.build 130 #[(1,vI6 x),(2,vU8 y),(4,vI6 z)]).run Tryz.prog w= .ok (.agg #[vI6 0,vU3 0,vI6 x,vU8 y,vU8 0,vI6 z,vI6 0,vI6 0,vI6 0,vU6 0]) w:=run_build w 130 _ _ (by rfl)
theorem newTr_ok (pg:Int) (lv:Nat) (sv:Int) (h:lv<256):(newTr pg lv sv).ok:=⟨by show(0:Nat)<_;decide,h,by show(0:Nat)<_;decide,by show(0:Int)<_;decide,by show(0:Nat)<_;decide⟩
theorem IsMc.start_full (h:IsMc w lab a P n q T M) (hG:gok M n) (pg:Int) (lv:Nat) (sv:Int) (hno:startNo M pg sv=false) (hf:freeOf M n=none):
  vQ 20 #[vPt a.m,vI6 pg,vU8 (lv:Int),vI6 sv] w (.tuple #[.slice none 0 0,vI6 4]):=by
 have HP:=veil (h.hasProg pg)
 have HL:=veil h.slen
 have HB:Hid (vQ 55 #[vPt a.m,vI6 0,.agg #[vI6 0,vU3 0,vI6 pg,vU8 (lv:Int),vU8 0,vI6 sv,vI6 0,vI6 0,vI6 0,vU6 0]] w (.tuple #[.agg #[vI6 0,vI6 0,vI6 0,vU3 0,vI6 0,vI6 0],vI6 4])):=h.begin_no hG 0 (newTr pg lv sv) hf
 have c6:=h.co.c6
 unfold startNo at hno
 clear h
 generalize M.sv.length=len at*
 have hp:hasPg M pg=true:=by grind
 have h1: ¬sv< -1:=by grind
 have h2: ¬(len:Int)≤sv:=by grind
 have d1:=decide_eq_false h1
 have d2:=decide_eq_false h2
 rw[hp] at HP
 have hbt:=fun w=>buildTr pg (lv:Int) sv w
 refine ge ?_
 go_wp2_with (first
  |(go_at_call 53;refine cS HP.out ?_)
  |(go_at_call 54;refine cS HL.out ?_)
  |(go_at_call 55;refine cH HB.out fun w1 HB1=> ?_))
 go_ret2
 exact⟨rfl,HB1.out.alloc HB1.out.size _⟩
end
end Go.Proofs.YtnmhcgpnhlhcgaaGreatDoor

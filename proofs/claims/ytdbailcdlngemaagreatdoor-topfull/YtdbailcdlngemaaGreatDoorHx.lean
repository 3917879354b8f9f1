/- YtdbailcdlngemaaGreatDoorHx: of the texts Xb2 Xa1 Xa2 Xa3 Xa4 Xb1 Xb3 Xa5 Xc1 Xd1 Xd2 Xd3 what is wanted. -/
import Derived.Test.YtdbailcdlngemaaGreatDoorH0
import Derived.Test.YtdbailcdlngemaaGreatDoorHf
import Derived.ProofKit
import Derived.WalkKit
import Derived.RowKit3
import Derived.Test.YtdbailcdlngemaaGreatDoorHt
import Derived.Maps.AppendAt
import Derived.Test.YtdbailcdlngemaaGreatDoorHs
import Derived.Test.YtdbailcdlngemaaGreatDoorHd
import Derived.Laws.Tables
import Derived.Laws.Cells
import Derived.Deep.WholeRow
import Derived.Deep.MidRow
set_option maxHeartbeats 16000000
set_option maxRecDepth 100000
set_option linter.unusedVariables false
set_option linter.unusedSimpArgs false
namespace Go.Proofs.YtdbailcdlngemaaGreatDoor
open Go.RowKit
@[go_sem] theorem wU {P : Program} {w : World} {a : Addr} {m : Mode} (k : FloatKind) (x : Nat) : (store a (.float k x) m).run P w = stored P w a (.float k x) m := run_store P w a _ m rfl
theorem AD (w:World):Calls Tryz.prog 14 #[.int .u64 0,.int .u64 0] w fun e w'=> ∃r,e= .returned (.float .f64 r)∧ ¬Fl.FU r∧w'=w.drew:=by
 have h:floatBits .quo .f64 (floatOfInt .f64 0) (floatOfInt .f64 0)=none:=by kernel_rfl
 have hrun: ∀w,(binOp .quo 25 (.float .f64 (floatOfInt .f64 0)) (.float .f64 (floatOfInt .f64 0))).run Tryz.prog w= .ok (.float .f64 (Fl.rj w (floatOfInt .f64 0) (floatOfInt .f64 0))) w.drew:=fun w=>Fl.nQ w 25 _ _ h
 clear h
 go_enter Tryz.func14,Tryz.ntmps14
 go_wp2
 go_ret
 exact⟨_,rfl,Fl.wR _ _ _,rfl⟩
end Go.Proofs.YtdbailcdlngemaaGreatDoor
namespace Go.Proofs.YtdbailcdlngemaaGreatDoor
open Go.RowKit Go.Lib Go.Shelf
attribute [local go_sem ↓] Go.wp_at_zero Go.wp_at_succ
structure RB (w:World) (b:Nat) (ev er:Value) (cn:Nat→Nat) (m:Nat) (pr:Int):Prop where
 c0:w.cell? ⟨b,0,none⟩=some ev
 c1:w.cell? ⟨b,1,none⟩=some er
 cn: ∀k,k<15→w.cell? ⟨b,2+k,none⟩=some (.int .i64 (cn k:Int))
 c17:w.cell? ⟨b,17,none⟩=some (.float .f64 0)
 c18:w.cell? ⟨b,18,none⟩=some (.pointer (some ⟨m,0,none⟩))
 c19:w.cell? ⟨b,19,none⟩=some (.int .i64 pr)
 c20:w.cell? ⟨b,20,none⟩=some (.int .u64 0)
 c21:w.cell? ⟨b,21,none⟩=some (.int .u64 0)
 fz: ∀o,w.frozen? ⟨b,o,none⟩=false
section
variable {w w':World} {b m:Nat} {ev er:Value} {cn:Nat→Nat} {pr:Int}
theorem RB.kept (h:RB w b ev er cn m pr) (hb:w'.heap[b]? =w.heap[b]?):RB w' b ev er cn m pr:=
 have e: ∀o,w'.cell? ⟨b,o,none⟩=w.cell? ⟨b,o,none⟩:=fun _=>World.cell?_of_block hb
 ⟨(e _).trans h.c0,(e _).trans h.c1,fun k hk=>(e _).trans (h.cn k hk),(e _).trans h.c17,(e _).trans h.c18,(e _).trans h.c19,(e _).trans h.c20,(e _).trans h.c21,fun o=>(World.frozen?_of_block hb).trans (h.fz o)⟩
theorem RB.lt (h:RB w b ev er cn m pr):b<w.heap.size:=World.block_lt_of_cell? w _ h.c0
theorem RB.CT (h:RB w b ev er cn m pr) (u:Value):RB (w.setCell ⟨b,0,none⟩ u) b u er cn m pr:=
 ⟨Gt.au _ _ _ _ h.c0,(ax w (by omega)).trans h.c1,fun k hk=>(ax w (by omega)).trans (h.cn k hk),(ax w (by omega)).trans h.c17,(ax w (by omega)).trans h.c18,(ax w (by omega)).trans h.c19,(ax w (by omega)).trans h.c20,(ax w (by omega)).trans h.c21,fun o=>by rw[aH];exact h.fz o⟩
theorem RB.EN (h:RB w b ev er cn m pr) (u:Value):RB (w.setCell ⟨b,1,none⟩ u) b ev u cn m pr:=
 ⟨(ax w (by omega)).trans h.c0,Gt.au _ _ _ _ h.c1,fun k hk=>(ax w (by omega)).trans (h.cn k hk),(ax w (by omega)).trans h.c17,(ax w (by omega)).trans h.c18,(ax w (by omega)).trans h.c19,(ax w (by omega)).trans h.c20,(ax w (by omega)).trans h.c21,fun o=>by rw[aH];exact h.fz o⟩
theorem RB.Fy (h:RB w b ev er cn m pr) (i:Nat) (hi:i<15) (c:Nat):RB (w.setCell ⟨b,2+i,none⟩ (.int .i64 (c:Int))) b ev er (Gt.aw cn i c) m pr:=
 ⟨(ax w (by omega)).trans h.c0,(ax w (by omega)).trans h.c1,fun k hk=>(by
  by_cases e:k=i
  ·rw[e,Gt.aj];exact Gt.au _ _ _ _ (h.cn i hi)
  ·rw[Gt.af _ _ _ _ e];exact(ax w (by omega)).trans (h.cn k hk)),(ax w (by omega)).trans h.c17,(ax w (by omega)).trans h.c18,(ax w (by omega)).trans h.c19,(ax w (by omega)).trans h.c20,(ax w (by omega)).trans h.c21,fun o=>by rw[aH];exact h.fz o⟩
end
def fh (cn:Nat→Nat) (l:List Ev) (k:Nat):Nat:=cn k+(l.filter (fun e=>e.k==(k:Int))).length
theorem fT.cells {w:World} {base:Nat} {v:Value} {l:List Ev} (h:fT w base v l): ∃a cap,v= .slice a l.length cap∧ ∀(j:Nat) (e:Ev),l[j]? =some e→ ∃g,a=some ⟨g,0,none⟩∧v.ownBlock=some g∧g<w.heap.size∧ ∀(i:Nat) (u:Value),(ft e)[i]? =some u→w.cell? ⟨g,j*6+i,none⟩=some u:=by
 rcases h with ⟨hl,⟨hv,hz⟩|⟨g,cap,cur,hv,h0,hg,hrow⟩⟩
 ·exact⟨none,0,by rw[hv,hz],fun j e he=>by have:=(List.getElem?_eq_some_iff.1 he).1;omega⟩
 ·refine⟨some ⟨g,0,none⟩,cap,hv,fun j e he=>⟨g,rfl,by rw[hv];rfl,(Array.getElem?_eq_some_iff.1 hg).1,fun i u hu=> ?_⟩⟩
  have hi:i<6:=(List.getElem?_eq_some_iff.1 hu).1
  have hc: ∀(l:List Ev) (j:Nat),l[j]? =some e→(bU l)[j*6+i]? =some u:=by
   intro l
   induction l with
   |nil=>intro j q;cases q
   |cons x l ih=>
    intro j q
    show(ft x++bU l)[j*6+i]? =some u
    cases j with
    |zero=>
     injection q with q
     rw[List.getElem?_append_left (by show 0*6+i<6;omega),q]
     simpa using hu
    |succ j=>
     rw[List.getElem?_append_right (by show 6≤(j+1)*6+i;omega),show(j+1)*6+i-(ft x).length=j*6+i by show(j+1)*6+i-6=_;omega]
     exact ih j q
  have:=hc l j he
  rw[←hrow.2.2.2,List.getElem?_take] at this
  split at this
  ·simp only[World.cell?,hg]
   simpa using this
  ·cases this
theorem qG (cn:Nat→Nat):fh cn []=cn:=by funext k;simp[fh]
theorem vT (cn:Nat→Nat) (l:List Ev) (e:Ev) (i:Nat) (hi:e.k=(i:Int)):fh cn (l++[e])=Gt.aw (fh cn l) i (fh cn l i+1):=by
 funext k
 by_cases q:k=i
 ·rw[q,Gt.aj]
  simp[fh,List.filter_append,hi]
  omega
 ·rw[Gt.af _ _ _ _ q]
  have: ¬(i:Int)=(k:Int):=by omega
  simp[fh,List.filter_append,hi,this]
theorem tL (cn:Nat→Nat) (l:List Ev) (k:Nat):fh cn l k≤cn k+l.length:=by
 unfold fh
 have:=List.length_filter_le (fun e:Ev=>e.k==(k:Int)) l
 omega
theorem mg (l l':List Ev):bU (l++l')=bU l++bU l':=by simp[bU]
theorem kP: ∀l:List Ev,(bU l).length=l.length*6
 |[]=>rfl
 |x::l=>by
  show(ft x++bU l).length=(l.length+1)*6
  rw[List.length_append,kP l]
  show 6+_=_
  omega
section
variable {w w':World} {b m base base2:Nat} {ev er v:Value} {cn:Nat→Nat} {pr:Int} {evs l:List Ev}
theorem Ba (h:RB w b ev er cn m pr) (he:fT w base ev evs) (hl:fT w base2 v l) (hk: ∀e∈l,∃i:Nat,i<15∧e.k=(i:Int)) (hn1: ∀k,ev.ownBlock=some k→k≠b) (hn2: ∀k,v.ownBlock=some k→k≠b) (hlen:evs.length+l.length≤10000) (hcn: ∀k,k<15→cn k≤100000) (hbase:base≤w.heap.size):
  Calls Tryz.prog 39 #[.pointer (some ⟨b,0,none⟩),v] w fun e w'=>e= .returned (.tuple #[])∧ ∃ev',RB w' b ev' er (fh cn l) m pr∧fT w' base ev' (evs++l)∧Fr (fun k=>k=b∨ev.ownBlock=some k) w w'∧(ev'.ownBlock=ev.ownBlock∨ ∀k,ev'.ownBlock=some k→w.heap.size≤k):=by
 obtain⟨a,cap,rfl,hat⟩:=hl.cells
 obtain⟨ae,ce,rfl⟩:=Cb.aF he
 have HH:=aa h
 have HE:=aa he
 have HL:=aa hl
 have HAT:=aa hat
 have hbl:=h.lt
 obtain⟨len,hle⟩: ∃len,l.length=len:=⟨_,rfl⟩
 have HLE:=aa hle
 rw[hle] at hlen⊢
 clear h he hl hat hle
 go_enter Tryz.func39,Tryz.ntmps39
 go_wp2
 go_loopw [8] (fun iv wr=> ∃j:Nat,j≤len∧iv= .int .i64 (j:Int)∧RB wr b (.slice ae evs.length ce) er (fh cn (l.take j)) m pr∧Fr (fun k=>k=b) w wr) (fun iv _=>len-(RowKit.intOf iv).toNat)
 case atStart=>exact⟨0,Nat.zero_le _,rfl,by rw[List.take_zero,qG];exact HH.out,Fr.refl _ _⟩
 case round=>
  obtain⟨j,hj,rfl,hR,hF⟩:=hrel
  by_cases hjl:j<len
  ·have hjl':(j:Int)<(len:Int):=by omega
   obtain⟨x,hx⟩: ∃x,l[j]? =some x:=⟨l[j]'(by rw[HLE.out];exact hjl),List.getElem?_eq_getElem _⟩
   obtain⟨g,rfl,hgo,hgl,hc⟩:=HAT.out j x hx
   have hgb:g≠b:=hn2 g hgo
   obtain⟨i,hi,hki⟩:=hk x (List.mem_of_getElem? hx)
   have d0:wr.cell? ⟨g,j*6,none⟩=some (.int .i64 (i:Int)):=by rw[←hki];exact(hF.cellAt hgl hgb).trans (hc 0 _ rfl)
   have d1:=(hF.cellAt hgl hgb).trans (hc 1 _ rfl)
   have d2:=(hF.cellAt hgl hgb).trans (hc 2 _ rfl)
   have d3:=(hF.cellAt hgl hgb).trans (hc 3 _ rfl)
   have d4:=(hF.cellAt hgl hgb).trans (hc 4 _ rfl)
   have d5:=(hF.cellAt hgl hgb).trans (hc 5 _ rfl)
   have htk:l.take (j+1)=l.take j++[x]:=by rw[List.take_add_one,hx];rfl
   have hcs:=vT cn (l.take j) x i hki
   have hcl:=tL cn (l.take j) i
   have hll:(l.take j).length≤10000:=by rw[List.length_take];omega
   have hci:=hcn i hi
   obtain⟨C,hC⟩: ∃C,fh cn (l.take j)=C:=⟨_,rfl⟩
   rw[hC] at hR hcs hcl
   obtain⟨ci,hcie⟩: ∃ci,C i=ci:=⟨_,rfl⟩
   rw[hcie] at hcs hcl
   have e2:=hR.cn i hi
   rw[hcie] at e2
   have hR1:=hR.Fy i hi (ci+1)
   have hA:Below (wr.setCell ⟨b,2+i,none⟩ (.int .i64 ((ci+1:Nat):Int))).heap.size (wr.setCell ⟨b,2+i,none⟩ (.int .i64 ((ci+1:Nat):Int))) (((wr.setCell ⟨b,2+i,none⟩ (.int .i64 ((ci+1:Nat):Int))).alloc (.cells #[.int .i64 (i:Int),.int .i64 x.p,.int .i64 x.x,.int .u32 (x.g:Int),.int .i64 x.r,.int .i64 x.e] 62)).drew):=((Below.refl _ _).alloc (Nat.le_refl _) _).drew
   have HR2:=aa (hR1.kept (hA.block b hR1.lt))
   have HF2:=aa ((hF.setCell (a:=⟨b,2+i,none⟩) rfl (.int .i64 ((ci+1:Nat):Int))).then (db (S:=fun k=>k=b) hA) (fun k _ q=>q))
   have hwp:wrap64 ((ci:Int)+1)=((ci+1:Nat):Int):=by simp[wrap64,IntKind.wrap,IntKind.bits,IntKind.signed];omega
   have hbl2:b<wr.heap.size:=hR.lt
   have hfz:=hR.fz (2+i)
   have HCS:=aa hcs
   have HTK:=aa htk
   have hi1:(i:Int)<15:=by omega
   have hi2: ¬(i:Int)<0:=by omega
   clear hx hgo hc hki hk hR hF hR1 hA hcs htk hll hci hcl hC hcie
   go_wp2
   go_region
   go_wp2
   go_roundw
   case rel=>exact⟨j+1,by omega,by go_num,by rw[HTK.out,HCS.out];exact HR2.out,HF2.out⟩
   case measure=>simp[RowKit.intOf];omega
  ·have hjl': ¬(j:Int)<(len:Int):=by omega
   have ej:j=len:=by omega
   have htl:l.take j=l:=List.take_of_length_le (by rw[HLE.out];omega)
   rw[htl] at hR
   have c0:=hR.c0
   have hfz:=hR.fz 0
   have hEv:=aI HE.out (w':=wr) (fun k q=>hF.block k (Pi.aq HE.out q).2.1 (hn1 k q))
   have hbw:base≤wr.heap.size:=Nat.le_trans hbase hF.size
   have HR:=aa hR
   have HF:=aa hF
   have HEV:=aa hEv
   have hbl2:b<wr.heap.size:=hR.lt
   obtain⟨i0,hi0,hz0,hz1,hz2⟩:=Cb.info_parts yl
   have hLw:=aI HL.out (w':=wr) (fun k q=>hF.block k (Pi.aq HL.out q).2.1 (hn2 k q))
   have HLW:=aa hLw
   have hLen:=HLE.out
   rcases hLw.2 with ⟨hv,hz⟩|⟨g,cap',cur,hv,_,hgr,hrow⟩
   ·injection hv with q1 q2 q3
    subst q1
    have hl0:l=[]:=List.length_eq_zero_iff.1 (by omega)
    have hlen0:len=0:=by omega
    have hcap0:cap=0:=by omega
    subst hlen0 hcap0
    rw[ej]
    rw[ej] at hjl'
    clear hR hF hEv hk hLw hz q2 q3
    go_wp2_with (at_builtin;refine Wh.jB _ rfl _ _ 31 rfl base 62 i0 6 Tryz.underlying31 hi0 _ _ _ rfl HEV.out rfl ?_)
    go_end0
    rw[hl0] at HR
    exact⟨rfl,_,HR.out.CT _,aI HEV.out (fun k q=>Below.heap_setCell _ _ _ _ (hn1 k q)),(HF.out.setCell (a:=⟨b,0,none⟩) rfl _).to (fun k _ q=> .inl q),.inl rfl⟩
   ·injection hv with q1 q2 q3
    subst q1
    subst q3
    have hj1:(j:Int)=(len:Int):=by omega
    rw[ej]
    rw[ej] at hjl'
    clear hR hF hEv hk hLw hj1
    go_wp2_with (at_builtin;refine wpList_append_own_at _ rfl _ _ 31 rfl base 62 i0 (.agg #[.int .i64 0,.int .i64 0,.int .i64 0,.int .u32 0,.int .i64 0,.int .i64 0]) 6 48 Tryz.underlying31 hi0 hz0 hz1 hz2 rfl (by decide) _ _ _ rfl HEV.out ⟨g,0,none⟩ len _ (bU l) rfl (by rw[kP,HLE.out]) (HLW.out.cells rfl) (qI l) (by unfold maxLen;omega) (by omega) hbw ?_;intro v1 w8 ho1 hg1 _ hat1;obtain⟨a1,d1,rfl⟩:=Cb.aF ho1;have hb8:=hg1.block b hbl2 (fun e=>hn1 b e.symm rfl);have c8:w8.cell? ⟨b,0,none⟩=_:=(World.cell?_of_block hb8).trans c0;have f8:w8.frozen? ⟨b,0,none⟩=false:=(World.frozen?_of_block hb8).trans hfz;have HB8:=aa hb8;have HO1:=aa ho1;have HG1:Hid (wr.grownBy w8 (Value.slice ae evs.length ce).ownBlock):=hg1;have HAT1:Hid ((Value.slice a1 (evs.length+len) d1).ownBlock=(Value.slice ae evs.length ce).ownBlock∨(Value.slice a1 (evs.length+len) d1).ownBlock=some wr.heap.size):=hat1;clear ho1 hg1 hat1 hb8)
    go_end0
    have hR8:=(HR.out.kept HB8.out).CT (.slice a1 (evs.length+len) d1)
    have ho:=HO1.out
    rw[←mg] at ho
    have hnb: ∀k,(Value.slice a1 (evs.length+len) d1).ownBlock=some k→k≠b:=fun k q=>by
     rcases HAT1.out with o|o
     ·exact hn1 k (by rw[←o];exact q)
     ·rw[o] at q
      injection q with q
      omega
    refine⟨rfl,_,hR8,?_,?_,?_⟩
    ·unfold fT
     rw[List.length_append,HLE.out]
     exact aI ho (fun k q=>Below.heap_setCell _ _ _ _ (hnb k q))
    ·have hg8:Fr (fun k=>k=b∨(Value.slice ae evs.length ce).ownBlock=some k) wr w8:=⟨HG1.out.os,HG1.out.tape,HG1.out.output,HG1.out.size,fun k hk hn=>HG1.out.block k hk (fun e=>hn (.inr e.symm))⟩
     exact((HF.out.to (fun k _ q=> .inl q)).then hg8 (fun k _ q=>q)).setCell (a:=⟨b,0,none⟩) (.inl rfl) _
    ·rcases HAT1.out with o|o
     ·exact .inl o
     ·refine .inr (fun k q=> ?_)
      rw[o] at q
      injection q with q
      rw[←q]
      exact HF.out.size
end
end Go.Proofs.YtdbailcdlngemaaGreatDoor
namespace Go.Proofs.YtdbailcdlngemaaGreatDoor
open Go.RowKit Go.Lib Go.Shelf
def DD (w:World) (base:Nat) (v:Value) (l:List Int):Prop:=w.ownsRow base 36 1 v l.length (l.map (fun e=> .int .i64 e))
def KR (rb:Nat) (ev er:Value) (E:Nat→Prop) (k:Nat):Prop:=k=rb∨ev.ownBlock=some k∨er.ownBlock=some k∨E k
def RS (w V:World) (ad:Ad) (P n q T:Nat) (M:Mc) (rb:Nat) (evs:List Ev) (errs:List Int) (er:Value) (E:Nat→Prop):Prop:=
 ∃ev,pT w V ad P n q T M (KR rb ev er E)∧RB V rb ev er (fh (fun _=>0) evs) ad.m (P:Int)∧fT V (rb+1) ev evs∧DD V (rb+1) er errs∧(∀k,E k→k≠rb∧ev.ownBlock≠some k∧er.ownBlock≠some k)∧w.heap.size≤rb∧0<rb
theorem DD.lt {w:World} {base:Nat} {v:Value} {l:List Int} (h:DD w base v l) {k:Nat} (hk:v.ownBlock=some k):base≤k∧k<w.heap.size:=⟨(Pi.aq h hk).1,(Pi.aq h hk).2.1⟩
theorem fT.Ab {w:World} {base:Nat} {v:Value} {l:List Ev} (h:fT w base v l) {k:Nat} (hk:v.ownBlock=some k):base≤k∧k<w.heap.size:=⟨(Pi.aq h hk).1,(Pi.aq h hk).2.1⟩
section
variable {w V V':World} {ad:Ad} {P n q T T':Nat} {M M':Mc} {rb:Nat} {evs l:List Ev} {errs:List Int} {er:Value} {E E':Nat→Prop}
theorem RS.add (h:RS w V ad P n q T M rb evs errs er E) (hb:Below V.heap.size V V') (hE: ∀k,E' k→E k∨(V.heap.size≤k∧k<V'.heap.size)):RS w V' ad P n q T M rb evs errs er E':=by
 obtain⟨ev,hA,hR,hEv,hF,hs,h0⟩:=h
 have hl:=hR.lt
 refine⟨ev,hA.below hb (fun k q=> ?_),hR.kept (hb.block _ hl),hEv.below hb,aI hF (fun k hk=>hb.block k (hF.lt hk).2),fun k q=> ?_,h0⟩
 ·rcases q with q|q|q|q
  ·exact .inl (.inl q)
  ·exact .inl (.inr (.inl q))
  ·exact .inl (.inr (.inr (.inl q)))
  ·rcases hE k q with r|r
   ·exact .inl (.inr (.inr (.inr r)))
   ·exact .inr r
 ·rcases hE k q with r|r
  ·exact hs k r
  ·exact⟨by omega,fun e=>by have:=(hEv.Ab e).2;omega,fun e=>by have:=(hF.lt e).2;omega⟩
theorem RS.below (h:RS w V ad P n q T M rb evs errs er E) (hb:Below V.heap.size V V'):RS w V' ad P n q T M rb evs errs er E:=h.add hb (fun k q=> .inl q)
theorem RS.less (h:RS w V ad P n q T M rb evs errs er E) (hE: ∀k,E' k→E k):RS w V ad P n q T M rb evs errs er E':=h.add (Below.refl _ _) (fun k q=> .inl (hE k q))
theorem RS.dO (h:RS w V ad P n q T M rb evs errs er E):Below w.heap.size w V:=by
 obtain⟨ev,hA,_⟩:=h
 exact hA.dO
theorem RS.is (h:RS w V ad P n q T M rb evs errs er E): ∃lab,ay V lab ad P n q T M:=by
 obtain⟨ev,⟨⟨lab,hi,_⟩,_⟩,_⟩:=h
 exact⟨lab,hi⟩
theorem RS.pq (h:RS w V ad P n q T M rb evs errs er E): ∃O,PQ V O ad.pb n P q T M.pl:=by
 obtain⟨ev,hA,_⟩:=h
 exact hA.pq
theorem RS.lt (h:RS w V ad P n q T M rb evs errs er E):rb<V.heap.size:=by
 obtain⟨ev,hA,hR,_⟩:=h
 exact hR.lt
theorem RS.yy (h:RS w V ad P n q T M rb evs errs er E) {k:Nat} (hk:E k):k<V.heap.size:=by
 obtain⟨ev,⟨⟨lab,hi,h1,h2⟩,hb⟩,_⟩:=h
 exact(h2 k (.inr (.inr (.inr hk)))).2
theorem RS.mc (h:RS w V ad P n q T M rb evs errs er E):V.cell? ⟨rb,18,none⟩=some (.pointer (some ⟨ad.m,0,none⟩)):=by
 obtain⟨ev,hA,hR,_⟩:=h
 exact hR.c18
theorem RS.call (h:RS w V ad P n q T M rb evs errs er E) {f:Nat} {args:Array Value} {R:Ending→World→Value→Prop}
  (hc: ∀lab,ay V lab ad P n q T M→Calls Tryz.prog f args V fun e w'=> ∃v,R e w' v∧fT w' V.heap.size v l∧kS V w' lab ad P n q T' M' v):
  Calls Tryz.prog f args V fun e w'=> ∃v,R e w' v∧fT w' V.heap.size v l∧RS w w' ad P n q T' M' rb evs errs er E∧ ∀k,E k→w'.heap[k]? =V.heap[k]? :=by
 obtain⟨ev,hA,hR,hE,hF,hs⟩:=h
 refine(hA.call hc).mono ?_
 rintro e w' ⟨v,hr,hv,hA',hK⟩
 refine⟨v,hr,hv,⟨ev,hA'.below (Below.refl _ _) (fun k q=> .inl (.inl q)),hR.kept (hK _ (.inl rfl)),aI hE (fun k hk=>hK k (.inr (.inl hk))),aI hF (fun k hk=>hK k (.inr (.inr (.inl hk)))),hs⟩,fun k h1=>hK k (.inr (.inr (.inr h1)))⟩
theorem RS.Fk (h:RS w V ad P n q T M rb evs errs er E) {f:Nat} {args:Array Value} {R:Ending→World→Prop}
  (hc: ∀lab,ay V lab ad P n q T M→Calls Tryz.prog f args V fun e w'=>R e w'∧az V w' lab ad P n q T' M'):
  Calls Tryz.prog f args V fun e w'=>R e w'∧RS w w' ad P n q T' M' rb evs errs er E∧ ∀k,E k→w'.heap[k]? =V.heap[k]? :=by
 obtain⟨ev,⟨⟨lab,hi,h1,h2⟩,hb⟩,hR,hE,hF,hs⟩:=h
 refine(hc lab hi).mono ?_
 rintro e w' ⟨hr,lab',hi',hl,hf⟩
 have hK: ∀k,KR rb ev er E k→w'.heap[k]? =V.heap[k]? :=fun k hk=>hf.block k (h2 k hk).2 (fun q=>q (h2 k hk).1)
 refine⟨hr,⟨ev,⟨⟨lab',hi',fun k hk=> ?_,fun k hk=>⟨(hl.old k (h2 k hk).2).trans (h2 k hk).1,Nat.lt_of_lt_of_le (h2 k hk).2 hf.size⟩⟩,hb.trans ⟨hf.os,hf.tape,hf.output,hf.size,fun k hk=>hf.block k (Nat.lt_of_lt_of_le hk hb.size) (fun q=>by have:=h1 k q;omega)⟩⟩,hR.kept (hK _ (.inl rfl)),aI hE (fun k hk=>hK k (.inr (.inl hk))),aI hF (fun k hk=>hK k (.inr (.inr (.inl hk)))),hs⟩,fun k h1=>hK k (.inr (.inr (.inr h1)))⟩
 rcases Nat.lt_or_ge k V.heap.size with q|q
 ·exact h1 k (by rw[←hl.old k q];exact hk)
 ·exact Nat.le_trans hb.size q
theorem pT.fr {K K' S:Nat→Prop} (h:pT w V ad P n q T M K) (hf:Fr S V V') (hS: ∀k,S k→K k) (h0: ¬S 0) (hw: ∀k,S k→w.heap.size≤k) (hk: ∀k,K' k→k<V'.heap.size∧(K k∨V.heap.size≤k)):pT w V' ad P n q T M K':=by
 obtain⟨⟨lab,hi,h1,h2⟩,hb⟩:=h
 refine⟨⟨lab,hi.frame hf (fun k hl hs=>hl (h2 k (hS k hs)).1) h0,h1,fun k q=> ?_⟩,hb.trans ⟨hf.os,hf.tape,hf.output,hf.size,fun k hk=>hf.block k (Nat.lt_of_lt_of_le hk hb.size) (fun q=>by have:=hw k q;omega)⟩⟩
 obtain⟨q1,q2|q2⟩:=hk k q
 ·exact⟨(h2 k q2).1,q1⟩
 ·exact⟨hi.fresh q2,q1⟩
theorem wu (cn:Nat→Nat) (l l':List Ev):fh (fh cn l) l'=fh cn (l++l'):=by
 funext k
 simp[fh,List.filter_append]
 omega
theorem RS.note (h:RS w V ad P n q T M rb evs errs er E) {base2:Nat} {v:Value} (hv:fT V base2 v l) (hb2:rb<base2) (hk: ∀e∈l,∃i:Nat,i<15∧e.k=(i:Int)) (hlen:evs.length+l.length≤10000):
  Calls Tryz.prog 39 #[.pointer (some ⟨rb,0,none⟩),v] V fun e w'=>e= .returned (.tuple #[])∧RS w w' ad P n q T M rb (evs++l) errs er E∧ ∀k,E k→w'.heap[k]? =V.heap[k]? :=by
 have hel: ∀k,E k→k<V.heap.size:=fun k q=>h.yy q
 obtain⟨ev,hA,hR,hE,hF,hs,hw,h0⟩:=h
 have hle: ∀k,fh (fun _=>0) evs k≤100000:=fun k=>by have:=tL (fun _=>0) evs k;omega
 refine(Ba hR hE hv hk (fun k q=>by have:=(hE.Ab q).1;omega) (fun k q=>by have:=(hv.Ab q).1;omega) hlen (fun k _=>hle k) (by have:=hR.lt;omega)).mono ?_
 rintro e w' ⟨rfl,ev',hR',hE',hf,ho⟩
 rw[wu] at hR'
 have hne: ∀k,er.ownBlock=some k→k≠rb∧ev.ownBlock≠some k:=fun k q=>⟨by have:=(hF.lt q).1;omega,fun q2=>by
  obtain⟨c1,e1⟩:=(Pi.aq hF q).2.2
  obtain⟨c2,e2⟩:=(Pi.aq hE q2).2.2
  rw[e1] at e2
  injection e2 with e2
  injection e2 with _ e3
  exact absurd e3 (by decide)⟩
 refine⟨rfl,⟨ev',hA.fr hf (fun k q=> ?_) (fun q=> ?_) (fun k q=> ?_) (fun k q=> ?_),hR',hE',aI hF (fun k q=>hf.block k (hF.lt q).2 (fun q2=> ?_)),fun k q=>⟨(hs k q).1,fun e=> ?_,(hs k q).2.2⟩,hw,h0⟩,fun k h1=>hf.block k (hel k h1) (fun q=> ?_)⟩
 ·rcases q with q|q
  ·exact .inl q
  ·exact .inr (.inl q)
 ·rcases q with q|q
  ·omega
  ·have:=(hE.Ab q).1;omega
 ·rcases q with q|q
  ·omega
  ·have:=(hE.Ab q).1;omega
 ·rcases q with q|q|q|q
  ·exact⟨by rw[q];exact Nat.lt_of_lt_of_le hR.lt hf.size,.inl (.inl q)⟩
  ·refine⟨(hE'.Ab q).2,?_⟩
   rcases ho with o|o
   ·exact .inl (.inr (.inl (by rw[←o];exact q)))
   ·exact .inr (o k q)
  ·exact⟨Nat.lt_of_lt_of_le (hF.lt q).2 hf.size,.inl (.inr (.inr (.inl q)))⟩
  ·exact⟨Nat.lt_of_lt_of_le (hel k q) hf.size,.inl (.inr (.inr (.inr q)))⟩
 ·rcases q2 with q2|q2
  ·exact(hne k q).1 q2
  ·exact(hne k q).2 q2
 ·rcases ho with o|o
  ·exact(hs k q).2.1 (by rw[←o];exact e)
  ·have:=o k e
   have:=hel k q
   omega
 ·rcases q with q|q
  ·exact(hs k h1).1 q
  ·exact(hs k h1).2.1 q
end
attribute [local go_sem ↓] Go.wp_at_zero Go.wp_at_succ
section
variable {w V:World} {ad:Ad} {P n q T T':Nat} {M M':Mc} {rb:Nat} {evs l:List Ev} {errs:List Int} {er:Value} {E:Nat→Prop} {c:Int}
def xL (w:World) (ad:Ad) (P n q T':Nat) (M':Mc) (rb:Nat) (evs:List Ev) (errs:List Int) (er:Value) (E:Nat→Prop) (c:Int) (l:List Ev) (V:World) (e:Ending) (w':World):Prop:=
 ∃v,e= .returned (.tuple #[v,.int .i64 c])∧fT w' V.heap.size v l∧RS w w' ad P n q T' M' rb evs errs er E∧ ∀k,E k→w'.heap[k]? =V.heap[k]?
def Comes (w:World) (ad:Ad) (P n q T':Nat) (M':Mc) (rb:Nat) (evs:List Ev) (errs:List Int) (er:Value) (E:Nat→Prop) (c:Int) (V:World) (e:Ending) (w':World):Prop:=
 e= .returned (.int .i64 c)∧RS w w' ad P n q T' M' rb evs errs er E∧ ∀k,E k→w'.heap[k]? =V.heap[k]?
theorem RS.told (h:RS w V ad P n q T M rb evs errs er E) {V0:World} {E0:Nat→Prop} (hE: ∀k,E0 k→E k) (h0:rb<V0.heap.size) (hs: ∀k,E0 k→V.heap[k]? =V0.heap[k]?) {base2:Nat} {v:Value} (hv:fT V base2 v l) (hb2:V0.heap.size≤base2) (hk: ∀e∈l,∃i:Nat,i<15∧e.k=(i:Int)) (hlen:evs.length+l.length≤10000):
  Calls Tryz.prog 39 #[.pointer (some ⟨rb,0,none⟩),v] V fun e w'=>e= .returned (.tuple #[])∧RS w w' ad P n q T M rb (evs++l) errs er E0∧ ∀k,E0 k→w'.heap[k]? =V0.heap[k]? :=by
 refine(h.note hv (by omega) hk hlen).mono ?_
 rintro e w' ⟨rfl,hR,hK⟩
 exact⟨rfl,hR.less hE,fun k h1=>(hK k (hE k h1)).trans (hs k h1)⟩
theorem RS.uE (h:RS w V ad P n q T M rb evs errs er E) (p:Int) (dr:Nat) (nn:Int) (a:Option Addr) (len cap bu pe:Nat) (pg:Int) (lv:Nat) (sv:Int) (hk: ∀e∈l,∃i:Nat,i<15∧e.k=(i:Int)) (hlen:evs.length+l.length≤10000)
  (hc: ∀V' E',RS w V' ad P n q T M rb evs errs er E'→Calls Tryz.prog 34 #[.pointer (some ⟨ad.m,0,none⟩),.int .i64 p,.int .u64 (dr:Int)] V' (xL w ad P n q T' M' rb evs errs er E' c l V')):
  Calls Tryz.prog 20 #[.pointer (some ⟨rb,0,none⟩),.agg #[.int .i64 1,.int .i64 p,.int .u64 (dr:Int),.int .i64 nn,.slice a len cap,.int .u64 (bu:Int),.int .u64 (pe:Int),.int .i64 pg,.int .u8 (lv:Int),.int .i64 sv]] V (Comes w ad P n q T' M' rb (evs++l) errs er E c V):=by
 have hb0:Below V.heap.size V (V.alloc (.cells #[.int .i64 1,.int .i64 p,.int .u64 (dr:Int),.int .i64 nn,.slice a len cap,.int .u64 (bu:Int),.int .u64 (pe:Int),.int .i64 pg,.int .u8 (lv:Int),.int .i64 sv] 51)).drew:=((Below.refl _ _).alloc (Nat.le_refl _) _).drew
 have h1:=h.add hb0 (E':=fun k=>E k∨k=V.heap.size) (fun k q=>q.elim .inl (fun q=> .inr ⟨by omega,by rw[q];show V.heap.size<((V.alloc (.cells #[.int .i64 1,.int .i64 p,.int .u64 (dr:Int),.int .i64 nn,.slice a len cap,.int .u64 (bu:Int),.int .u64 (pe:Int),.int .i64 pg,.int .u8 (lv:Int),.int .i64 sv] 51)).heap.size);simp⟩))
 have c18:=h1.mc
 have k0:=kc (W:=(V.alloc (.cells #[.int .i64 1,.int .i64 p,.int .u64 (dr:Int),.int .i64 nn,.slice a len cap,.int .u64 (bu:Int),.int .u64 (pe:Int),.int .i64 pg,.int .u8 (lv:Int),.int .i64 sv] 51)).drew) (Below.refl _ _).drew (aT V #[.int .i64 1,.int .i64 p,.int .u64 (dr:Int),.int .i64 nn,.slice a len cap,.int .u64 (bu:Int),.int .u64 (pe:Int),.int .i64 pg,.int .u8 (lv:Int),.int .i64 sv] 51 0 _ rfl)
 have k1:=kc (W:=(V.alloc (.cells #[.int .i64 1,.int .i64 p,.int .u64 (dr:Int),.int .i64 nn,.slice a len cap,.int .u64 (bu:Int),.int .u64 (pe:Int),.int .i64 pg,.int .u8 (lv:Int),.int .i64 sv] 51)).drew) (Below.refl _ _).drew (aT V #[.int .i64 1,.int .i64 p,.int .u64 (dr:Int),.int .i64 nn,.slice a len cap,.int .u64 (bu:Int),.int .u64 (pe:Int),.int .i64 pg,.int .u8 (lv:Int),.int .i64 sv] 51 1 _ rfl)
 have k2:=kc (W:=(V.alloc (.cells #[.int .i64 1,.int .i64 p,.int .u64 (dr:Int),.int .i64 nn,.slice a len cap,.int .u64 (bu:Int),.int .u64 (pe:Int),.int .i64 pg,.int .u8 (lv:Int),.int .i64 sv] 51)).drew) (Below.refl _ _).drew (aT V #[.int .i64 1,.int .i64 p,.int .u64 (dr:Int),.int .i64 nn,.slice a len cap,.int .u64 (bu:Int),.int .u64 (pe:Int),.int .i64 pg,.int .u8 (lv:Int),.int .i64 sv] 51 2 _ rfl)
 have HC:=aa (hc _ _ h1)
 have hrb:rb<V.heap.size:=h.lt
 have HS0:=aa (fun k (q:E k)=>hb0.block k (h.yy q))
 have HSZ:=aa hb0.size
 unfold Comes
 clear h h1 hb0 hc
 go_enter Tryz.func20,Tryz.ntmps20
 go_wp2
 go_region_held3 (fun w'=>w'.cell? ⟨rb,18,none⟩=some (.pointer (some ⟨ad.m,0,none⟩))∧w'.cell? ⟨V.heap.size,0,none⟩=some (.int .i64 1)∧w'.cell? ⟨V.heap.size,1,none⟩=some (.int .i64 p)∧w'.cell? ⟨V.heap.size,2,none⟩=some (.int .u64 (dr:Int))) (first|exact⟨c18,k0,k1,k2⟩|exact HM1.out|go_keep)
  (first
   |(go_at_call 34;refine(HC.out).mono ?_;rintro e w1 hT1;obtain⟨v1,rfl,hv1,hR1,hK1⟩:=hT1;have HV1:=aa hv1;have HR1:=aa hR1;have HK1:=aa hK1;have HM1:=aa ((And.intro hR1.mc (And.intro ((World.cell?_of_block (hK1 _ (.inr rfl))).trans k0) (And.intro ((World.cell?_of_block (hK1 _ (.inr rfl))).trans k1) ((World.cell?_of_block (hK1 _ (.inr rfl))).trans k2)))));clear hv1 hR1 hK1))
 go_wp2_with (go_at_call 39;refine(HR1.out.told (V0:=V) (E0:=E) (fun k q=> .inl q) hrb (fun k q=>(HK1.out k (.inl q)).trans (HS0.out k q)) HV1.out HSZ.out hk hlen).mono ?_;rintro e w2 ⟨rfl,hR2,hK2⟩;have HR2:=aa hR2;have HK2:=aa hK2;clear hR2 hK2)
 go_ret
 exact⟨rfl,HR2.out,HK2.out⟩
theorem RS.mG (h:RS w V ad P n q T M rb evs errs er E) (p:Int) (dr:Nat) (nn:Int) (a:Option Addr) (len cap bu pe:Nat) (pg:Int) (lv:Nat) (sv:Int) (hk: ∀e∈l,∃i:Nat,i<15∧e.k=(i:Int)) (hlen:evs.length+l.length≤10000)
  (hc: ∀V' E',RS w V' ad P n q T M rb evs errs er E'→Calls Tryz.prog 38 #[.pointer (some ⟨ad.m,0,none⟩),.int .i64 pg,.int .u8 (lv:Int),.int .i64 sv] V' (xL w ad P n q T' M' rb evs errs er E' c l V')):
  Calls Tryz.prog 20 #[.pointer (some ⟨rb,0,none⟩),.agg #[.int .i64 5,.int .i64 p,.int .u64 (dr:Int),.int .i64 nn,.slice a len cap,.int .u64 (bu:Int),.int .u64 (pe:Int),.int .i64 pg,.int .u8 (lv:Int),.int .i64 sv]] V (Comes w ad P n q T' M' rb (evs++l) errs er E c V):=by
 have hb0:Below V.heap.size V (V.alloc (.cells #[.int .i64 5,.int .i64 p,.int .u64 (dr:Int),.int .i64 nn,.slice a len cap,.int .u64 (bu:Int),.int .u64 (pe:Int),.int .i64 pg,.int .u8 (lv:Int),.int .i64 sv] 51)).drew:=((Below.refl _ _).alloc (Nat.le_refl _) _).drew
 have h1:=h.add hb0 (E':=fun k=>E k∨k=V.heap.size) (fun k q=>q.elim .inl (fun q=> .inr ⟨by omega,by rw[q];show V.heap.size<((V.alloc (.cells #[.int .i64 5,.int .i64 p,.int .u64 (dr:Int),.int .i64 nn,.slice a len cap,.int .u64 (bu:Int),.int .u64 (pe:Int),.int .i64 pg,.int .u8 (lv:Int),.int .i64 sv] 51)).heap.size);simp⟩))
 have c18:=h1.mc
 have k0:=kc (W:=(V.alloc (.cells #[.int .i64 5,.int .i64 p,.int .u64 (dr:Int),.int .i64 nn,.slice a len cap,.int .u64 (bu:Int),.int .u64 (pe:Int),.int .i64 pg,.int .u8 (lv:Int),.int .i64 sv] 51)).drew) (Below.refl _ _).drew (aT V #[.int .i64 5,.int .i64 p,.int .u64 (dr:Int),.int .i64 nn,.slice a len cap,.int .u64 (bu:Int),.int .u64 (pe:Int),.int .i64 pg,.int .u8 (lv:Int),.int .i64 sv] 51 0 _ rfl)
 have k7:=kc (W:=(V.alloc (.cells #[.int .i64 5,.int .i64 p,.int .u64 (dr:Int),.int .i64 nn,.slice a len cap,.int .u64 (bu:Int),.int .u64 (pe:Int),.int .i64 pg,.int .u8 (lv:Int),.int .i64 sv] 51)).drew) (Below.refl _ _).drew (aT V #[.int .i64 5,.int .i64 p,.int .u64 (dr:Int),.int .i64 nn,.slice a len cap,.int .u64 (bu:Int),.int .u64 (pe:Int),.int .i64 pg,.int .u8 (lv:Int),.int .i64 sv] 51 7 _ rfl)
 have k8:=kc (W:=(V.alloc (.cells #[.int .i64 5,.int .i64 p,.int .u64 (dr:Int),.int .i64 nn,.slice a len cap,.int .u64 (bu:Int),.int .u64 (pe:Int),.int .i64 pg,.int .u8 (lv:Int),.int .i64 sv] 51)).drew) (Below.refl _ _).drew (aT V #[.int .i64 5,.int .i64 p,.int .u64 (dr:Int),.int .i64 nn,.slice a len cap,.int .u64 (bu:Int),.int .u64 (pe:Int),.int .i64 pg,.int .u8 (lv:Int),.int .i64 sv] 51 8 _ rfl)
 have k9:=kc (W:=(V.alloc (.cells #[.int .i64 5,.int .i64 p,.int .u64 (dr:Int),.int .i64 nn,.slice a len cap,.int .u64 (bu:Int),.int .u64 (pe:Int),.int .i64 pg,.int .u8 (lv:Int),.int .i64 sv] 51)).drew) (Below.refl _ _).drew (aT V #[.int .i64 5,.int .i64 p,.int .u64 (dr:Int),.int .i64 nn,.slice a len cap,.int .u64 (bu:Int),.int .u64 (pe:Int),.int .i64 pg,.int .u8 (lv:Int),.int .i64 sv] 51 9 _ rfl)
 have HC:=aa (hc _ _ h1)
 have hrb:rb<V.heap.size:=h.lt
 have HS0:=aa (fun k (q:E k)=>hb0.block k (h.yy q))
 have HSZ:=aa hb0.size
 unfold Comes
 clear h h1 hb0 hc
 go_enter Tryz.func20,Tryz.ntmps20
 go_wp2
 go_region_held3 (fun w'=>w'.cell? ⟨rb,18,none⟩=some (.pointer (some ⟨ad.m,0,none⟩))∧w'.cell? ⟨V.heap.size,0,none⟩=some (.int .i64 5)∧w'.cell? ⟨V.heap.size,7,none⟩=some (.int .i64 pg)∧w'.cell? ⟨V.heap.size,8,none⟩=some (.int .u8 (lv:Int))∧w'.cell? ⟨V.heap.size,9,none⟩=some (.int .i64 sv)) (first|exact⟨c18,k0,k7,k8,k9⟩|exact HM1.out|go_keep)
  (first
   |(go_at_call 38;refine(HC.out).mono ?_;rintro e w1 hT1;obtain⟨v1,rfl,hv1,hR1,hK1⟩:=hT1;have HV1:=aa hv1;have HR1:=aa hR1;have HK1:=aa hK1;have HM1:=aa ((And.intro hR1.mc (And.intro ((World.cell?_of_block (hK1 _ (.inr rfl))).trans k0) (And.intro ((World.cell?_of_block (hK1 _ (.inr rfl))).trans k7) (And.intro ((World.cell?_of_block (hK1 _ (.inr rfl))).trans k8) ((World.cell?_of_block (hK1 _ (.inr rfl))).trans k9))))));clear hv1 hR1 hK1))
 go_wp2_with (go_at_call 39;refine(HR1.out.told (V0:=V) (E0:=E) (fun k q=> .inl q) hrb (fun k q=>(HK1.out k (.inl q)).trans (HS0.out k q)) HV1.out HSZ.out hk hlen).mono ?_;rintro e w2 ⟨rfl,hR2,hK2⟩;have HR2:=aa hR2;have HK2:=aa hK2;clear hR2 hK2)
 go_ret
 exact⟨rfl,HR2.out,HK2.out⟩
theorem RS.Af (h:RS w V ad P n q T M rb evs errs er E) (p:Int) (dr:Nat) (nn:Int) (a:Option Addr) (len cap bu pe:Nat) (pg:Int) (lv:Nat) (sv:Int) (hlen:evs.length≤10000) (O R:Nat→Int) (hp:Ex.jW V a len O R) (hr:Ex.Rt len O R) (hf:M.pr.length<16):
  Calls Tryz.prog 20 #[.pointer (some ⟨rb,0,none⟩),.agg #[.int .i64 3,.int .i64 p,.int .u64 (dr:Int),.int .i64 nn,.slice a len cap,.int .u64 (bu:Int),.int .u64 (pe:Int),.int .i64 pg,.int .u8 (lv:Int),.int .i64 sv]] V (Comes w ad P n q T {M with pr:=M.pr++[⟨len,O,R⟩]} rb evs errs er E 0 V):=by
 have hb0:Below V.heap.size V (V.alloc (.cells #[.int .i64 3,.int .i64 p,.int .u64 (dr:Int),.int .i64 nn,.slice a len cap,.int .u64 (bu:Int),.int .u64 (pe:Int),.int .i64 pg,.int .u8 (lv:Int),.int .i64 sv] 51)).drew:=((Below.refl _ _).alloc (Nat.le_refl _) _).drew
 have h1:=h.add hb0 (E':=fun k=>E k∨k=V.heap.size) (fun k q=>q.elim .inl (fun q=> .inr ⟨by omega,by rw[q];show V.heap.size<((V.alloc (.cells #[.int .i64 3,.int .i64 p,.int .u64 (dr:Int),.int .i64 nn,.slice a len cap,.int .u64 (bu:Int),.int .u64 (pe:Int),.int .i64 pg,.int .u8 (lv:Int),.int .i64 sv] 51)).heap.size);simp⟩))
 have c18:=h1.mc
 have k0:=kc (W:=(V.alloc (.cells #[.int .i64 3,.int .i64 p,.int .u64 (dr:Int),.int .i64 nn,.slice a len cap,.int .u64 (bu:Int),.int .u64 (pe:Int),.int .i64 pg,.int .u8 (lv:Int),.int .i64 sv] 51)).drew) (Below.refl _ _).drew (aT V #[.int .i64 3,.int .i64 p,.int .u64 (dr:Int),.int .i64 nn,.slice a len cap,.int .u64 (bu:Int),.int .u64 (pe:Int),.int .i64 pg,.int .u8 (lv:Int),.int .i64 sv] 51 0 _ rfl)
 have k4:=kc (W:=(V.alloc (.cells #[.int .i64 3,.int .i64 p,.int .u64 (dr:Int),.int .i64 nn,.slice a len cap,.int .u64 (bu:Int),.int .u64 (pe:Int),.int .i64 pg,.int .u8 (lv:Int),.int .i64 sv] 51)).drew) (Below.refl _ _).drew (aT V #[.int .i64 3,.int .i64 p,.int .u64 (dr:Int),.int .i64 nn,.slice a len cap,.int .u64 (bu:Int),.int .u64 (pe:Int),.int .i64 pg,.int .u8 (lv:Int),.int .i64 sv] 51 4 _ rfl)
 have HC:=aa (h1.Fk (R:=fun e w'=>e= .returned (.tuple #[.int .i64 (M.pr.length:Int),.int .i64 0])) (fun lab hi=>hi.x9 a len cap O R (hp.below hb0) hr hf))
 have hrb:rb<V.heap.size:=h.lt
 have HS0:=aa (fun k (q:E k)=>hb0.block k (h.yy q))
 have HSZ:=aa hb0.size
 unfold Comes
 clear h h1 hb0
 go_enter Tryz.func20,Tryz.ntmps20
 go_wp2
 go_region_held3 (fun w'=>w'.cell? ⟨rb,18,none⟩=some (.pointer (some ⟨ad.m,0,none⟩))∧w'.cell? ⟨V.heap.size,0,none⟩=some (.int .i64 3)∧w'.cell? ⟨V.heap.size,4,none⟩=some (.slice a len cap)) (first|exact⟨c18,k0,k4⟩|exact HM1.out|go_keep)
  (first
   |(go_at_call 36;refine(HC.out).mono ?_;rintro e w1 hT1;obtain⟨rfl,hR1,hK1⟩:=hT1;have HR1:=aa hR1;have HK1:=aa hK1;have HM1:=aa ((And.intro hR1.mc (And.intro ((World.cell?_of_block (hK1 _ (.inr rfl))).trans k0) ((World.cell?_of_block (hK1 _ (.inr rfl))).trans k4))));clear hR1 hK1))
 go_wp2_with (go_at_call 39;refine(HR1.out.told (V0:=V) (E0:=E) (l:=[]) (fun k q=> .inl q) hrb (fun k q=>(HK1.out k (.inl q)).trans (HS0.out k q)) (fT.nil _ _) (Nat.le_refl _) (fun e q=>by cases q) (by simpa using hlen)).mono ?_;rintro e w2 ⟨rfl,hR2,hK2⟩;rw[List.append_nil] at hR2;have HR2:=aa hR2;have HK2:=aa hK2;clear hR2 hK2)
 go_ret
 exact⟨rfl,HR2.out,HK2.out⟩
end
def Fg (x:Ex.En) (a:Option Addr) (cap:Nat):Value:= .agg #[.int .i64 x.d,.int .i64 x.p,.int .u64 (x.dr:Int),.int .i64 x.n,.slice a x.code.length cap,.int .u64 (x.bu:Int),.int .u64 (x.pe:Int),.int .i64 x.pr,.int .u8 (x.lv:Int),.int .i64 x.sv]
structure FO (w:World) (v:Value) (L:List Ex.En) (E:Nat→Prop):Prop where
 len: ∃a cap,v= .slice a L.length cap
 at_: ∀(j:Nat) (x:Ex.En),L[j]? =some x→ ∃g a cap,(∃c,v= .slice (some ⟨g,0,none⟩) L.length c)∧E g∧(∀(i:Nat) (u:Value),(Ex.ec x a cap)[i]? =some u→w.cell? ⟨g,j*10+i,none⟩=some u)∧ ∀V:World,(∀k,E k→V.heap[k]? =w.heap[k]?)→(∀k,E k→k<V.heap.size)→Ex.jW V a x.code.length (Ex.cO x.code) (Ex.cR x.code)
theorem FO.of {w:World} {base:Nat} {v:Value} {Z:Ex.Zs} (h:Ex.Rw w base 51 v Z):FO w v (Z.map (·.1)) (fun k=>base≤k∧k<w.heap.size):=by
 obtain⟨a,cap,hv,_⟩:=h.GI
 refine⟨⟨a,cap,by rw[hv,List.length_map]⟩,fun j x hx=> ?_⟩
 rw[List.getElem?_map] at hx
 cases hz:Z[j]? with
 |none=>rw[hz] at hx;cases hx
 |some z=>
  rw[hz] at hx
  injection hx with hx
  obtain⟨hl,⟨hv0,h0⟩|⟨g,cap',cur,hvg,hb,hg,hrow⟩⟩:=h.row
  ·have:=(List.getElem?_eq_some_iff.1 hz).1
   omega
  ·refine⟨g,z.2.1,z.2.2,⟨cap',by rw[hvg,List.length_map]⟩,⟨hb,(Array.getElem?_eq_some_iff.1 hg).1⟩,fun i u hu=> ?_,fun V hV hl=> ?_⟩
   ·rw[←hx] at hu
    have:=Ex.ic Z j z hz i u hu
    rw[←hrow.2.2.2,List.getElem?_take] at this
    split at this
    ·simp only[World.cell?,hg]
     simpa using this
    ·cases this
   ·obtain⟨hc,_⟩:=h.qC z (List.mem_of_getElem? hz)
    rw[←hx]
    have hc':Ex.dA V base (.slice z.2.1 z.1.code.length z.2.2) z.1.code:=aI hc (fun k q=>hV k ⟨(Pi.aq hc q).1,(Pi.aq hc q).2.1⟩)
    obtain⟨a',cap'',e1,hp⟩:=Ex.ir hc'
    injection e1 with e1
    rw[e1]
    exact hp
end Go.Proofs.YtdbailcdlngemaaGreatDoor
namespace Go.Proofs.YtdbailcdlngemaaGreatDoor
open Go.RowKit Go.Lib Go.Shelf
section
variable {w V W W':World} {ad:Ad} {P n q T:Nat} {M:Mc} {rb:Nat} {evs:List Ev} {errs:List Int} {er v':Value} {E:Nat→Prop} {c:Int}
theorem RS.CE (h:RS w V ad P n q T M rb evs errs er E):DD V (rb+1) er errs∧V.cell? ⟨rb,1,none⟩=some er∧V.frozen? ⟨rb,1,none⟩=false:=by
 obtain⟨ev,hA,hR,hE,hF,_⟩:=h
 exact⟨hF,hR.c1,hR.fz 1⟩
theorem RS.err (h:RS w V ad P n q T M rb evs errs er E) (ho:W'.ownsRow (rb+1) 36 1 v' (errs.length+1) (errs.map (fun e=> .int .i64 e)++[.int .i64 c])) (hg:V.grownBy W' er.ownBlock) (hat:v'.ownBlock=er.ownBlock∨v'.ownBlock=some V.heap.size):
  W'.cell? ⟨rb,1,none⟩=some er∧W'.frozen? ⟨rb,1,none⟩=false∧RS w (W'.setCell ⟨rb,1,none⟩ v') ad P n q T M rb evs (errs++[c]) v' E∧ ∀k,E k→(W'.setCell ⟨rb,1,none⟩ v').heap[k]? =V.heap[k]? :=by
 have hel: ∀k,E k→k<V.heap.size:=fun k q=>h.yy q
 obtain⟨ev,hA,hR,hE,hF,hs,hw,h0⟩:=h
 have hne: ∀k,er.ownBlock=some k→k≠rb∧ev.ownBlock≠some k:=fun k q=>⟨by have:=(hF.lt q).1;omega,fun q2=>by
  obtain⟨c1,e1⟩:=(Pi.aq hF q).2.2
  obtain⟨c2,e2⟩:=(Pi.aq hE q2).2.2
  rw[e1] at e2
  injection e2 with e2
  injection e2 with _ e3
  exact absurd e3 (by decide)⟩
 have hb:W'.heap[rb]? =V.heap[rb]? :=hg.block rb hR.lt (fun e=>(hne rb e.symm).1 rfl)
 have hR':=(hR.kept hb).EN v'
 have hf:Fr (fun k=>k=rb∨er.ownBlock=some k) V (W'.setCell ⟨rb,1,none⟩ v'):=Fr.setCell (S:=fun k=>k=rb∨er.ownBlock=some k) ⟨hg.os,hg.tape,hg.output,hg.size,fun k hk hn=>hg.block k hk (fun e=>hn (.inr e.symm))⟩ (a:=⟨rb,1,none⟩) (.inl rfl) v'
 have hv': ∀k,v'.ownBlock=some k→k≠rb∧(er.ownBlock=some k∨V.heap.size≤k):=fun k q=>by
  rcases hat with o|o
  ·rw[o] at q;exact⟨(hne k q).1,.inl q⟩
  ·rw[o] at q
   injection q with q
   have:=hR.lt
   exact⟨by omega,.inr (by omega)⟩
 have hF':DD (W'.setCell ⟨rb,1,none⟩ v') (rb+1) v' (errs++[c]):=by
  unfold DD
  rw[List.length_append,List.map_append]
  exact aI ho (fun k q=>Below.heap_setCell _ _ _ _ (hv' k q).1)
 refine⟨(World.cell?_of_block hb).trans hR.c1,(World.frozen?_of_block hb).trans (hR.fz 1),⟨ev,hA.fr hf (fun k q=> ?_) (fun q=> ?_) (fun k q=> ?_) (fun k q=> ?_),hR',aI hE (fun k q=>hf.block k (hE.Ab q).2 (fun q2=> ?_)),hF',fun k q=>⟨(hs k q).1,(hs k q).2.1,fun e=> ?_⟩,hw,h0⟩,fun k q=>hf.block k (hel k q) (fun q2=> ?_)⟩
 ·rcases q with q|q
  ·exact .inl q
  ·exact .inr (.inr (.inl q))
 ·rcases q with q|q
  ·omega
  ·have:=(hF.lt q).1;omega
 ·rcases q with q|q
  ·omega
  ·have:=(hF.lt q).1;omega
 ·rcases q with q|q|q|q
  ·exact⟨by rw[q];exact Nat.lt_of_lt_of_le hR.lt hf.size,.inl (.inl q)⟩
  ·exact⟨Nat.lt_of_lt_of_le (hE.Ab q).2 hf.size,.inl (.inr (.inl q))⟩
  ·refine⟨(hF'.lt q).2,?_⟩
   rcases(hv' k q).2 with o|o
   ·exact .inl (.inr (.inr (.inl o)))
   ·exact .inr o
  ·exact⟨Nat.lt_of_lt_of_le (hel k q) hf.size,.inl (.inr (.inr (.inr q)))⟩
 ·rcases q2 with q2|q2
  ·have:=(hE.Ab q).1;omega
  ·exact(hne k q2).2 q
 ·rcases(hv' k e).2 with o|o
  ·exact(hs k q).2.2 o
  ·have:=hel k q;omega
 ·rcases q2 with q2|q2
  ·exact(hs k q).1 q2
  ·exact(hs k q).2.2 q2
end
def nL (ev er:Value) (cn:Nat→Nat) (f:Nat):Array Value:= #[ev,er,.int .i64 (cn 0:Int),.int .i64 (cn 1:Int),.int .i64 (cn 2:Int),.int .i64 (cn 3:Int),.int .i64 (cn 4:Int),.int .i64 (cn 5:Int),.int .i64 (cn 6:Int),.int .i64 (cn 7:Int),.int .i64 (cn 8:Int),.int .i64 (cn 9:Int),.int .i64 (cn 10:Int),.int .i64 (cn 11:Int),.int .i64 (cn 12:Int),.int .i64 (cn 13:Int),.int .i64 (cn 14:Int),.float .f64 f]
theorem RB.row {w:World} {b m:Nat} {ev er:Value} {cn:Nat→Nat} {pr:Int} (h:RB w b ev er cn m pr) (f:Nat): ∀(j:Nat) (v:Value),(nL ev er cn f)[j]? =some v→(w.setCell ⟨b,17,none⟩ (.float .f64 f)).cell? ⟨b,j,none⟩=some v:=fun j v hv=>by
 have hj:j<18:=(Array.getElem?_eq_some_iff.1 hv).1
 have fin: ∀u,(nL ev er cn f)[j]? =some u→(w.setCell ⟨b,17,none⟩ (.float .f64 f)).cell? ⟨b,j,none⟩=some u→(w.setCell ⟨b,17,none⟩ (.float .f64 f)).cell? ⟨b,j,none⟩=some v:=fun u h1 h2=>by
  rw[hv] at h1
  rw[h2,←h1]
 match j,hj with
 |0,_=>exact fin _ rfl ((ax w (by omega)).trans h.c0)
 |1,_=>exact fin _ rfl ((ax w (by omega)).trans h.c1)
 |17,_=>exact fin _ rfl (Gt.au _ _ _ _ h.c17)
 |2,_=>exact fin _ rfl ((ax w (by omega)).trans (h.cn 0 (by decide)))
 |3,_=>exact fin _ rfl ((ax w (by omega)).trans (h.cn 1 (by decide)))
 |4,_=>exact fin _ rfl ((ax w (by omega)).trans (h.cn 2 (by decide)))
 |5,_=>exact fin _ rfl ((ax w (by omega)).trans (h.cn 3 (by decide)))
 |6,_=>exact fin _ rfl ((ax w (by omega)).trans (h.cn 4 (by decide)))
 |7,_=>exact fin _ rfl ((ax w (by omega)).trans (h.cn 5 (by decide)))
 |8,_=>exact fin _ rfl ((ax w (by omega)).trans (h.cn 6 (by decide)))
 |9,_=>exact fin _ rfl ((ax w (by omega)).trans (h.cn 7 (by decide)))
 |10,_=>exact fin _ rfl ((ax w (by omega)).trans (h.cn 8 (by decide)))
 |11,_=>exact fin _ rfl ((ax w (by omega)).trans (h.cn 9 (by decide)))
 |12,_=>exact fin _ rfl ((ax w (by omega)).trans (h.cn 10 (by decide)))
 |13,_=>exact fin _ rfl ((ax w (by omega)).trans (h.cn 11 (by decide)))
 |14,_=>exact fin _ rfl ((ax w (by omega)).trans (h.cn 12 (by decide)))
 |15,_=>exact fin _ rfl ((ax w (by omega)).trans (h.cn 13 (by decide)))
 |16,_=>exact fin _ rfl ((ax w (by omega)).trans (h.cn 14 (by decide)))
attribute [local go_sem ↓] Go.wp_at_zero Go.wp_at_succ
def nS:Array Value:= #[.slice none 0 0,.slice none 0 0,.int .i64 0,.int .i64 0,.int .i64 0,.int .i64 0,.int .i64 0,.int .i64 0,.int .i64 0,.int .i64 0,.int .i64 0,.int .i64 0,.int .i64 0,.int .i64 0,.int .i64 0,.int .i64 0,.int .i64 0,.float .f64 0]
def BW:Array Value:= #[.slice none 0 0,.slice none 0 0,.int .i64 0,.int .i64 0,.int .i64 0,.int .i64 0,.int .i64 0,.int .i64 0,.int .i64 0,.int .i64 0,.int .i64 0,.int .i64 0,.int .i64 0,.int .i64 0,.int .i64 0,.int .i64 0,.int .i64 0,.float .f64 0,.pointer none,.int .i64 0,.int .u64 0,.int .u64 0]
theorem Ef (w:World):(zeroValue 73).run Tryz.prog w= .ok (.agg BW) w:=by kernel_rfl
def Ae (m:Nat) (p:Int):Array Value:= #[.slice none 0 0,.slice none 0 0,.int .i64 0,.int .i64 0,.int .i64 0,.int .i64 0,.int .i64 0,.int .i64 0,.int .i64 0,.int .i64 0,.int .i64 0,.int .i64 0,.int .i64 0,.int .i64 0,.int .i64 0,.int .i64 0,.int .i64 0,.float .f64 0,.pointer (some ⟨m,0,none⟩),.int .i64 p,.int .u64 0,.int .u64 0]
theorem B9 (W:World) (m:Nat) (p:Int):(storeCells ⟨W.heap.size,0,none⟩ ((BW.toList.set 18 (.pointer (some ⟨m,0,none⟩))).set 19 (.int .i64 p))).run Tryz.prog (W.alloc (.cells BW 73))= .ok () (W.alloc (.cells (Ae m p) 73)):=
 run_storeCells_new W 73 BW (Ae m p) (by kernel_rfl) rfl (by simp[Ae,Value.oneCell'])
theorem Dt (W:World) (m:Nat) (p:Int):RB (W.alloc (.cells (Ae m p) 73)) W.heap.size (.slice none 0 0) (.slice none 0 0) (fun _=>0) m p:=by
 have k:=fun i u (h:(Ae m p)[i]? =some u)=>aT W (Ae m p) 73 i u h
 refine⟨k 0 _ rfl,k 1 _ rfl,fun i hi=> ?_,k 17 _ rfl,k 18 _ rfl,k 19 _ rfl,k 20 _ rfl,k 21 _ rfl,fun o=> ?_⟩
 ·match i,hi with
  |0,_=>exact k 2 _ rfl
  |1,_=>exact k 3 _ rfl
  |2,_=>exact k 4 _ rfl
  |3,_=>exact k 5 _ rfl
  |4,_=>exact k 6 _ rfl
  |5,_=>exact k 7 _ rfl
  |6,_=>exact k 8 _ rfl
  |7,_=>exact k 9 _ rfl
  |8,_=>exact k 10 _ rfl
  |9,_=>exact k 11 _ rfl
  |10,_=>exact k 12 _ rfl
  |11,_=>exact k 13 _ rfl
  |12,_=>exact k 14 _ rfl
  |13,_=>exact k 15 _ rfl
  |14,_=>exact k 16 _ rfl
 ·exact World.frozen?_alloc_new _ _ _ _
theorem Bs:(Tryz.prog.info? 36).map (fun i=>(i.zero,i.size,i.bytes))=some (some (.int .i64 0),1,8):=by kernel_rfl
theorem rv {w:World} {base base':Nat} {e:TypeId} {size:Nat} {v:Value} {n:Nat} {xs:List Value} (h:w.ownsRow base e size v n xs) (hb:base'≤base):w.ownsRow base' e size v n xs:=by
 obtain⟨h1,h2|⟨g,cap,cells,hv,h3,h4⟩⟩:=h
 ·exact⟨h1,.inl h2⟩
 ·exact⟨h1,.inr ⟨g,cap,cells,hv,Nat.le_trans hb h3,h4⟩⟩
def Steps (w:World) (P n q:Nat) (L:List Ex.En) (J:Nat→Nat→Mc→List Ev→List Int→Prop):Prop:=
 ∀(j:Nat) (x:Ex.En),L[j]? =some x→ ∀V ad T M rb evs errs er E a cap,J j T M evs errs→RS w V ad P n q T M rb evs errs er E→Ex.jW V a x.code.length (Ex.cO x.code) (Ex.cR x.code)→
  Calls Tryz.prog 20 #[.pointer (some ⟨rb,0,none⟩),Fg x a cap] V (fun e w'=> ∃T' M' evs' c,Comes w ad P n q T' M' rb evs' errs er E c V e w'∧J (j+1) T' M' evs' (errs++[c]))
theorem DA (P n q m qu ag:Nat) (hP:1≤P∧P≤64) (hn:1≤n∧n≤1024) (hq:1≤q∧q≤256) (hm:m≤32) (hqu:1≤qu∧qu<18446744073709551616) (hag:1≤ag∧ag<18446744073709551616) (w:World) (ht:Gt.lx w) (bv:Value) (L:List Ex.En) (hL:L.length≤1000)
  (hdec: ∀V,Below w.heap.size w V→Calls Tryz.prog 19 #[bv] V (Ex.FD V 51 L)) (J:Nat→Nat→Mc→List Ev→List Int→Prop) (hJ0:J 0 0 (gJ P n m qu ag) [] []) (hst:Steps w P n q L J):
  Calls Tryz.prog 10 #[.agg #[.int .i64 (P:Int),.int .i64 (n:Int),.int .i64 (q:Int),.int .i64 (m:Int),.int .u64 (qu:Int),.int .u64 (ag:Int)],bv] w fun e w'=> ∃ev er f T M evs errs,J L.length T M evs errs∧e= .returned (.tuple #[.agg (nL ev er (fh (fun _=>0) evs) f),.int .i64 0])∧ ¬Fl.FU f∧fT w' w.heap.size ev evs∧DD w' w.heap.size er errs∧Below w.heap.size w w':=by
 obtain⟨W0,hW0⟩: ∃W0,(w.alloc (.cells #[.int .i64 (P:Int),.int .i64 (n:Int),.int .i64 (q:Int),.int .i64 (m:Int),.int .u64 (qu:Int),.int .u64 (ag:Int)] 41)).alloc (.cells nS 35)=W0:=⟨_,rfl⟩
 have hb0:Below w.heap.size w W0:=by rw[←hW0];exact((Below.refl _ _).alloc (Nat.le_refl _) _).alloc (by simp) _
 have hz0:W0.heap.size=w.heap.size+2:=by rw[←hW0];simp
 have k0:W0.cell? ⟨w.heap.size,0,none⟩=some (.int .i64 (P:Int)):=by
  rw[←hW0]
  exact kc (W0:=w.alloc (.cells #[.int .i64 (P:Int),.int .i64 (n:Int),.int .i64 (q:Int),.int .i64 (m:Int),.int .u64 (qu:Int),.int .u64 (ag:Int)] 41)) ((Below.refl _ _).alloc (Nat.le_refl _) _) (aT w #[.int .i64 (P:Int),.int .i64 (n:Int),.int .i64 (q:Int),.int .i64 (m:Int),.int .u64 (qu:Int),.int .u64 (ag:Int)] 41 0 _ rfl)
 have kz:W0.heap[w.heap.size+1]? =some (.cells nS 35 (0,0)):=by
  rw[←hW0]
  have:=(MapKept.heap_alloc (w.alloc (.cells #[.int .i64 (P:Int),.int .i64 (n:Int),.int .i64 (q:Int),.int .i64 (m:Int),.int .u64 (qu:Int),.int .u64 (ag:Int)] 41)) (.cells nS 35)).1
  rwa [show(w.alloc (.cells #[.int .i64 (P:Int),.int .i64 (n:Int),.int .i64 (q:Int),.int .i64 (m:Int),.int .u64 (qu:Int),.int .u64 (ag:Int)] 41)).heap.size=w.heap.size+1 by simp] at this
 have HN:Hid (Calls Tryz.prog 18 #[.agg #[.int .i64 (P:Int),.int .i64 (n:Int),.int .i64 (q:Int),.int .i64 (m:Int),.int .u64 (qu:Int),.int .u64 (ag:Int)]] W0 fun e w'=> ∃a,e= .returned (.pointer (some ⟨a.m,0,none⟩))∧pT w w' a P n q 0 (gJ P n m qu ag) (fun k=>k=w.heap.size∨k=w.heap.size+1)∧w'.cell? ⟨w.heap.size,0,none⟩=some (.int .i64 (P:Int))∧w'.heap[w.heap.size+1]? =some (.cells nS 35 (0,0))):=by
  refine(gy P n q m qu ag hP hn hq hm hqu hag _ (ht.below hb0)).mono ?_
  rintro e w' ⟨a,lab,he,hi,hl,hb⟩
  refine⟨a,he,⟨⟨lab,hi,fun k hk=> ?_,fun k q=>⟨?_,?_⟩⟩,bt hb0 hb⟩,kc hb k0,(hb.block _ (by omega)).trans kz⟩
  ·have:=hl k hk
   omega
  ·apply Classical.byContradiction
   intro hne
   have:=hl k hne
   omega
  ·have:=hb.size
   omega
 have HD:Hid (∀V,Below w.heap.size w V→Calls Tryz.prog 19 #[bv] V fun e w'=> ∃v,e= .returned (.tuple #[v,.int .i64 0,.int .i64 0])∧FO w' v L (fun k=>V.heap.size≤k∧k<w'.heap.size)∧Below V.heap.size V w'):=fun V hV=>by
  refine(hdec V hV).mono ?_
  rintro e w' ⟨Z,v,hZ,rfl,hR,hb⟩
  have:=FO.of hR
  rw[hZ] at this
  exact⟨v,rfl,this,hb⟩
 have HST:=aa hst
 have HJ0:=aa hJ0
 have HW0:=aa hW0
 have hzr:=Ef
 have hsr:=B9
 clear hb0 k0 ht hdec hst hJ0 hP hn hq hm hqu hag hW0 hz0 kz
 go_enter Tryz.func10,Tryz.ntmps10
 go_wp2_with (go_at_call 18;have hw0:=HW0.out;unfold nS at hw0;rw[hw0];refine(HN.out).mono ?_;rintro e w1 ⟨ad,rfl,hA1,c1,z1⟩;have HA1:=aa hA1;have HZ1:=aa z1;clear hA1 z1 HN hw0)
 obtain⟨E2,hE2⟩: ∃E2:World→Nat→Prop,∀w2 k,E2 w2 k↔((k=w.heap.size∨k=w.heap.size+1)∨(w1.heap.size≤k∧k<w2.heap.size)):=⟨fun w2 k=>(k=w.heap.size∨k=w.heap.size+1)∨(w1.heap.size≤k∧k<w2.heap.size),fun _ _=>Iff.rfl⟩
 have HE2:=aa hE2
 clear hE2
 go_wp2_with (go_at_call 19;refine(HD.out w1 HA1.out.dO).mono ?_;rintro e w2 ⟨v2,rfl,hr2,hb2⟩;obtain⟨a2,cp2,rfl⟩:=hr2.len;have HR2:=aa hr2;have c2:=kc hb2 c1;have HB2:=aa hb2;clear hr2 hb2 HD)
 have h12:w.heap.size+1<w1.heap.size:=by
  obtain⟨⟨lab,hi,h1,h2⟩,hb⟩:=HA1.out
  exact(h2 _ (.inr rfl)).2
 have h22:w1.heap.size≤w2.heap.size:=HB2.out.size
 have HRS0:Hid (RS w (w2.alloc (.cells (Ae ad.m (P:Int)) 73)) ad P n q 0 (gJ P n m qu ag) w2.heap.size [] [] (.slice none 0 0) (E2 w2)):=by
  refine⟨.slice none 0 0,HA1.out.below (bt HB2.out ((Below.refl _ _).alloc (Nat.le_refl _) _)) (fun k q=> ?_),by rw[qG];exact Dt w2 ad.m (P:Int),fT.nil _ _,⟨rfl,.inl ⟨rfl,rfl⟩⟩,fun k q=>⟨?_,by simp[Value.ownBlock],by simp[Value.ownBlock]⟩,by omega,by omega⟩
  ·have hsz:(w2.alloc (.cells (Ae ad.m (P:Int)) 73)).heap.size=w2.heap.size+1:=by simp
   rcases q with q|q|q|q
   ·exact .inr ⟨by omega,by omega⟩
   ·simp[Value.ownBlock] at q
   ·simp[Value.ownBlock] at q
   ·rcases(HE2.out w2 k).1 q with q|q
    ·exact .inl q
    ·exact .inr ⟨q.1,by omega⟩
  ·rcases(HE2.out w2 k).1 q with q|q
   ·omega
   ·omega
 have HK0:Hid (∀k,E2 w2 k→(w2.alloc (.cells (Ae ad.m (P:Int)) 73)).heap[k]? =w2.heap[k]?):=fun k q=>Below.heap_alloc _ _ _ (by rcases(HE2.out w2 k).1 q with q|q<;>omega)
 generalize (w2.alloc (.cells (Ae ad.m (P:Int)) 73))=W3 at*
 obtain⟨len,hlen⟩: ∃len,L.length=len:=⟨_,rfl⟩
 have HLEN:=aa hlen
 rw[hlen] at hL⊢
 clear hlen
 go_loopw [34] (fun iv wr=> ∃(j T:Nat) (M:Mc) (evs:List Ev) (errs:List Int) (er:Value),j≤len∧iv= .int .i64 (j:Int)∧errs.length=j∧J j T M evs errs∧RS w wr ad P n q T M w2.heap.size evs errs er (E2 w2)∧ ∀k,E2 w2 k→wr.heap[k]? =w2.heap[k]?) (fun iv _=>len-(RowKit.intOf iv).toNat)
 case atStart=>exact⟨0,0,_,[],[],_,Nat.zero_le _,rfl,rfl,HJ0.out,HRS0.out,HK0.out⟩
 case round=>
  obtain⟨j,T,M,evs,errs,er,hj,rfl,hel,hJ,hR,hK⟩:=hrel
  obtain⟨ae,ce,rfl⟩:=Cb.aF hR.CE.1
  clear HRS0 HK0 HJ0
  by_cases hjl:j<len
  ·have hjl':(j:Int)<(len:Int):=by omega
   obtain⟨x,hx⟩: ∃x,L[j]? =some x:=⟨L[j]'(by rw[HLEN.out];exact hjl),List.getElem?_eq_getElem _⟩
   obtain⟨g,ca,cc,⟨cq,hvq⟩,hEg,hcell,hprg⟩:=HR2.out.at_ j x hx
   injection hvq with hvq1 hvq2 hvq3
   subst hvq1
   have hg2:E2 w2 g:=(HE2.out w2 g).2 (.inr hEg)
   have hgk:=hK g hg2
   have y: ∀(i:Nat) (u:Value),(Ex.ec x ca cc)[i]? =some u→wr.cell? ⟨g,j*10+i,none⟩=some u:=fun i u hu=>(World.cell?_of_block hgk).trans (hcell i u hu)
   have y0:=y 0 _ rfl;have y1:=y 1 _ rfl;have y2:=y 2 _ rfl;have y3:=y 3 _ rfl;have y4:=y 4 _ rfl
   have y5:=y 5 _ rfl;have y6:=y 6 _ rfl;have y7:=y 7 _ rfl;have y8:=y 8 _ rfl;have y9:=y 9 _ rfl
   rw[Nat.add_zero] at y0
   have hbB:Below wr.heap.size wr ((wr.alloc (.cells #[.int .i64 x.d,.int .i64 x.p,.int .u64 (x.dr:Int),.int .i64 x.n,.slice ca x.code.length cc,.int .u64 (x.bu:Int),.int .u64 (x.pe:Int),.int .i64 x.pr,.int .u8 (x.lv:Int),.int .i64 x.sv] 51)).drew):=((Below.refl _ _).alloc (Nat.le_refl _) _).drew
   have hszB:((wr.alloc (.cells #[.int .i64 x.d,.int .i64 x.p,.int .u64 (x.dr:Int),.int .i64 x.n,.slice ca x.code.length cc,.int .u64 (x.bu:Int),.int .u64 (x.pe:Int),.int .i64 x.pr,.int .u8 (x.lv:Int),.int .i64 x.sv] 51)).drew).heap.size=wr.heap.size+1:=by show(wr.alloc (.cells #[.int .i64 x.d,.int .i64 x.p,.int .u64 (x.dr:Int),.int .i64 x.n,.slice ca x.code.length cc,.int .u64 (x.bu:Int),.int .u64 (x.pe:Int),.int .i64 x.pr,.int .u8 (x.lv:Int),.int .i64 x.sv] 51)).heap.size=_;simp
   have hel2: ∀k,E2 w2 k→k<wr.heap.size:=fun k q=>hR.yy q
   have hRB:=hR.add hbB (E':=fun k=>E2 w2 k∨k=wr.heap.size) (fun k q=>q.elim .inl (fun q=> .inr ⟨by omega,by omega⟩))
   have HDO:=aa (HST.out j x hx ((wr.alloc (.cells #[.int .i64 x.d,.int .i64 x.p,.int .u64 (x.dr:Int),.int .i64 x.n,.slice ca x.code.length cc,.int .u64 (x.bu:Int),.int .u64 (x.pe:Int),.int .i64 x.pr,.int .u8 (x.lv:Int),.int .i64 x.sv] 51)).drew) ad T M w2.heap.size evs errs _ _ ca cc hJ hRB (hprg _ (fun k q=>(hbB.block k (hel2 k ((HE2.out w2 k).2 (.inr q)))).trans (hK k ((HE2.out w2 k).2 (.inr q)))) (fun k q=>by have:=hel2 k ((HE2.out w2 k).2 (.inr q));omega)))
   have bb:=fun (i:Nat) (u:Value) (h:(#[.int .i64 x.d,.int .i64 x.p,.int .u64 (x.dr:Int),.int .i64 x.n,.slice ca x.code.length cc,.int .u64 (x.bu:Int),.int .u64 (x.pe:Int),.int .i64 x.pr,.int .u8 (x.lv:Int),.int .i64 x.sv]:Array Value)[i]? =some u)=>kc (W:=((wr.alloc (.cells #[.int .i64 x.d,.int .i64 x.p,.int .u64 (x.dr:Int),.int .i64 x.n,.slice ca x.code.length cc,.int .u64 (x.bu:Int),.int .u64 (x.pe:Int),.int .i64 x.pr,.int .u8 (x.lv:Int),.int .i64 x.sv] 51)).drew)) (Below.refl _ _).drew (aT wr #[.int .i64 x.d,.int .i64 x.p,.int .u64 (x.dr:Int),.int .i64 x.n,.slice ca x.code.length cc,.int .u64 (x.bu:Int),.int .u64 (x.pe:Int),.int .i64 x.pr,.int .u8 (x.lv:Int),.int .i64 x.sv] 51 i u h)
   have HS:Hid (∀W:World,W.heap[wr.heap.size]? =((wr.alloc (.cells #[.int .i64 x.d,.int .i64 x.p,.int .u64 (x.dr:Int),.int .i64 x.n,.slice ca x.code.length cc,.int .u64 (x.bu:Int),.int .u64 (x.pe:Int),.int .i64 x.pr,.int .u8 (x.lv:Int),.int .i64 x.sv] 51)).drew).heap[wr.heap.size]? →(W.cell? ⟨wr.heap.size,0,none⟩=some (.int .i64 x.d)∧W.cell? ⟨wr.heap.size,1,none⟩=some (.int .i64 x.p)∧W.cell? ⟨wr.heap.size,2,none⟩=some (.int .u64 (x.dr:Int))∧W.cell? ⟨wr.heap.size,3,none⟩=some (.int .i64 x.n)∧W.cell? ⟨wr.heap.size,4,none⟩=some (.slice ca x.code.length cc)∧W.cell? ⟨wr.heap.size,5,none⟩=some (.int .u64 (x.bu:Int))∧W.cell? ⟨wr.heap.size,6,none⟩=some (.int .u64 (x.pe:Int))∧W.cell? ⟨wr.heap.size,7,none⟩=some (.int .i64 x.pr)∧W.cell? ⟨wr.heap.size,8,none⟩=some (.int .u8 (x.lv:Int))∧W.cell? ⟨wr.heap.size,9,none⟩=some (.int .i64 x.sv))):=fun W hW=>⟨(World.cell?_of_block hW).trans (bb 0 _ rfl),(World.cell?_of_block hW).trans (bb 1 _ rfl),(World.cell?_of_block hW).trans (bb 2 _ rfl),(World.cell?_of_block hW).trans (bb 3 _ rfl),(World.cell?_of_block hW).trans (bb 4 _ rfl),(World.cell?_of_block hW).trans (bb 5 _ rfl),(World.cell?_of_block hW).trans (bb 6 _ rfl),(World.cell?_of_block hW).trans (bb 7 _ rfl),(World.cell?_of_block hW).trans (bb 8 _ rfl),(World.cell?_of_block hW).trans (bb 9 _ rfl)⟩
   have hne2:wr.heap.size≠w2.heap.size:=by have:=hR.lt;omega
   have e1b:=hRB.CE.2.1
   have HKW:=aa (fun k (q:E2 w2 k)=>(hbB.block k (hel2 k q)).trans (hK k q))
   have hlen2:errs.length≤1000:=by omega
   have HEL:=aa hel
   obtain⟨i0,hi0,hz0,hz1,hz2⟩:=Cb.info_parts Bs
   unfold Fg at HDO
   clear hcell hprg hJ hR hK hx hEg hg2 hgk y hvq2 hvq3 hbB hRB bb hel2 hel
   go_wp2
   refine wp_region_held_drew (S:=(fun w'=>w'.cell? ⟨wr.heap.size,0,none⟩=some (.int .i64 x.d)∧w'.cell? ⟨wr.heap.size,1,none⟩=some (.int .i64 x.p)∧w'.cell? ⟨wr.heap.size,2,none⟩=some (.int .u64 (x.dr:Int))∧w'.cell? ⟨wr.heap.size,3,none⟩=some (.int .i64 x.n)∧w'.cell? ⟨wr.heap.size,4,none⟩=some (.slice ca x.code.length cc)∧w'.cell? ⟨wr.heap.size,5,none⟩=some (.int .u64 (x.bu:Int))∧w'.cell? ⟨wr.heap.size,6,none⟩=some (.int .u64 (x.pe:Int))∧w'.cell? ⟨wr.heap.size,7,none⟩=some (.int .i64 x.pr)∧w'.cell? ⟨wr.heap.size,8,none⟩=some (.int .u8 (x.lv:Int))∧w'.cell? ⟨wr.heap.size,9,none⟩=some (.int .i64 x.sv))) (by kernel_rfl) ?_ (fun hHeld=> ?_)
   ·exact HS.out _ rfl
   refine aE 0 (v:= ?_) rfl ?v0 ?_
   case v0=>(intro w hSw;(try dsimp only at hSw);obtain⟨hSa,hSb,hSc,hSd,hSe,hSf,hSg,hSh,hSi,hSj⟩:=hSw;go_simp;try with_reducible rfl)
   try simp only[ao]
   refine aE 1 (v:= ?_) rfl ?v1 ?_
   case v1=>(intro w hSw;(try dsimp only at hSw);obtain⟨hSa,hSb,hSc,hSd,hSe,hSf,hSg,hSh,hSi,hSj⟩:=hSw;go_simp;try with_reducible rfl)
   try simp only[ao]
   refine aE 3 (v:= ?_) rfl ?v3 ?_
   case v3=>(intro w hSw;(try dsimp only at hSw);obtain⟨hSa,hSb,hSc,hSd,hSe,hSf,hSg,hSh,hSi,hSj⟩:=hSw;go_simp;try with_reducible rfl)
   try simp only[ao]
   refine wpAnyH_ready (rs:=[2,4]) (by kernel_rfl) (by simp) ?_
   refine AllReadyH.cons rfl (fun K hK=> ?_) (AllReadyH.cons rfl (fun K hK=> ?_) AllReadyH.nil)
   ·skip
    go_simp
    refine hK.out _ _ ?_ (fun hHeld=> ?_)
    ·exact hHeld
    clear hK K
    try simp only[ao]
    refine aZ 4 rfl (fun K hK=> ?_)
    go_simp
    go_at_call 20
    refine(HDO.out).mono ?_
    rintro e w5 ⟨T5,M5,evs5,c5,hC5,hJ5⟩
    obtain⟨rfl,hR5,hK5⟩:=hC5
    have hb5:=hK5 _ (.inr rfl)
    have e15:=hR5.CE.2.1
    have hn5:Below w5.heap.size w5 (w5.alloc (.cells #[.int .i64 c5] 36)):=(Below.refl _ _).alloc (Nat.le_refl _) _
    have hR6:=hR5.below hn5
    have e16:=hR6.CE.2.1
    have HR6:=aa hR6
    have HO6:=aa hR6.CE.1
    have HK5:=aa hK5
    have HJ5:=aa hJ5
    have HS5:=aa (HS.out w5 hb5)
    have h6b:=(hn5.block _ (hR5.yy (k:=wr.heap.size) (.inr rfl))).trans hb5
    have HS6:=aa (HS.out _ h6b)
    have HB6:=aa h6b
    have HK6:=aa (fun k (q:E2 w2 k)=>(hn5.block k (hR5.yy (.inl q))).trans ((hK5 k (.inl q)).trans (HKW.out k q)))
    clear hR5 hK5 hJ5 hb5 hn5 hR6 h6b
    refine hK.out _ _ ?_ (fun hHeld=> ?_)
    ·exact HS5.out
    clear hK K
    try simp only[ao]
    refine aZ 5 rfl (fun K hK=> ?_)
    go_simp
    refine hK.out _ _ ?_ (fun hHeld=> ?_)
    ·exact HS6.out
    clear hK K
    try simp only[ao]
    refine aZ 6 rfl (fun K hK=> ?_)
    refine bJ _ (by rfl) _ _ _ (by rfl) (w2.heap.size+1) 36 i0 (.int .i64 0) 1 8 Tryz.underlying32 hi0 hz0 hz1 hz2 rfl (by decide) (.slice ae errs.length ce) errs.length (errs.map (fun e=> .int .i64 e)) (by rfl) HO6.out ⟨w5.heap.size,0,none⟩ 1 1 [.int .i64 c5] (by rfl) rfl (Cb.lz (w1:=w5) (c:=[.int .i64 c5]) rfl) (by simp[Value.oneCell']) (by unfold maxLen;omega) (by omega) (by have:=HR6.out.lt;omega) ?_
    intro v7 w7 ho7 hg7 hat7
    obtain⟨c7,f7,hR7,hK7⟩:=HR6.out.err ho7 hg7 hat7
    obtain⟨a7,d7,rfl⟩:=Cb.aF ho7
    have HR7:=aa hR7
    have HK7:=aa hK7
    have h7b:=(hK7 _ (.inr rfl)).trans HB6.out
    have HS9:=aa (HS.out _ h7b)
    have HS7:=aa (HS.out w7 ((Below.heap_setCell _ _ _ _ hne2).symm.trans h7b))
    have HK9:=aa (fun k (q:E2 w2 k)=>(hK7 k (.inl q)).trans (HK6.out k q))
    clear ho7 hg7 hat7 hR7 hK7 h7b
    refine hK.out _ _ ?_ (fun hHeld=> ?_)
    ·exact HS7.out
    clear hK K
    try simp only[ao]
    refine aE 7 (v:= ?_) rfl ?v7 ?_
    case v7=>(intro w hSw;(try dsimp only at hSw);obtain⟨hSa,hSb,hSc,hSd,hSe,hSf,hSg,hSh,hSi,hSj⟩:=hSw;go_simp;try with_reducible rfl)
    try simp only[ao]
    refine aE 8 (v:= ?_) rfl ?v8 ?_
    case v8=>(intro w hSw;(try dsimp only at hSw);obtain⟨hSa,hSb,hSc,hSd,hSe,hSf,hSg,hSh,hSi,hSj⟩:=hSw;go_simp;try with_reducible rfl)
    try simp only[ao]
    refine aZ 9 rfl (fun K hK=> ?_)
    go_simp
    refine hK.out _ _ ?_ (fun hHeld=> ?_)
    ·exact HS9.out
    clear hK K
    try simp only[ao]
    refine wpAnyH_done (by kernel_rfl) ?_ _
    go_wp2
    go_roundw
    case rel=>exact⟨j+1,T5,M5,evs5,errs++[c5],_,by omega,by go_num,by simp[HEL.out],HJ5.out,HR7.out.less (fun k q=> .inl q),HK9.out⟩
    case measure=>simp[RowKit.intOf];omega
   ·skip
    go_simp
    go_at_call 20
    refine(HDO.out).mono ?_
    rintro e w5 ⟨T5,M5,evs5,c5,hC5,hJ5⟩
    obtain⟨rfl,hR5,hK5⟩:=hC5
    have hb5:=hK5 _ (.inr rfl)
    have e15:=hR5.CE.2.1
    have hn5:Below w5.heap.size w5 (w5.alloc (.cells #[.int .i64 c5] 36)):=(Below.refl _ _).alloc (Nat.le_refl _) _
    have hR6:=hR5.below hn5
    have e16:=hR6.CE.2.1
    have HR6:=aa hR6
    have HO6:=aa hR6.CE.1
    have HK5:=aa hK5
    have HJ5:=aa hJ5
    have HS5:=aa (HS.out w5 hb5)
    have h6b:=(hn5.block _ (hR5.yy (k:=wr.heap.size) (.inr rfl))).trans hb5
    have HS6:=aa (HS.out _ h6b)
    have HB6:=aa h6b
    have HK6:=aa (fun k (q:E2 w2 k)=>(hn5.block k (hR5.yy (.inl q))).trans ((hK5 k (.inl q)).trans (HKW.out k q)))
    clear hR5 hK5 hJ5 hb5 hn5 hR6 h6b
    refine hK.out _ _ ?_ (fun hHeld=> ?_)
    ·exact HS5.out
    clear hK K
    try simp only[ao]
    refine wpAnyH_ready (rs:=[2,5]) (by kernel_rfl) (by simp) ?_
    refine AllReadyH.cons rfl (fun K hK=> ?_) (AllReadyH.cons rfl (fun K hK=> ?_) AllReadyH.nil)
    ·skip
     go_simp
     refine hK.out _ _ ?_ (fun hHeld=> ?_)
     ·exact hHeld
     clear hK K
     try simp only[ao]
     refine aZ 5 rfl (fun K hK=> ?_)
     go_simp
     refine hK.out _ _ ?_ (fun hHeld=> ?_)
     ·exact HS6.out
     clear hK K
     try simp only[ao]
     refine aZ 6 rfl (fun K hK=> ?_)
     refine bJ _ (by rfl) _ _ _ (by rfl) (w2.heap.size+1) 36 i0 (.int .i64 0) 1 8 Tryz.underlying32 hi0 hz0 hz1 hz2 rfl (by decide) (.slice ae errs.length ce) errs.length (errs.map (fun e=> .int .i64 e)) (by rfl) HO6.out ⟨w5.heap.size,0,none⟩ 1 1 [.int .i64 c5] (by rfl) rfl (Cb.lz (w1:=w5) (c:=[.int .i64 c5]) rfl) (by simp[Value.oneCell']) (by unfold maxLen;omega) (by omega) (by have:=HR6.out.lt;omega) ?_
     intro v7 w7 ho7 hg7 hat7
     obtain⟨c7,f7,hR7,hK7⟩:=HR6.out.err ho7 hg7 hat7
     obtain⟨a7,d7,rfl⟩:=Cb.aF ho7
     have HR7:=aa hR7
     have HK7:=aa hK7
     have h7b:=(hK7 _ (.inr rfl)).trans HB6.out
     have HS9:=aa (HS.out _ h7b)
     have HS7:=aa (HS.out w7 ((Below.heap_setCell _ _ _ _ hne2).symm.trans h7b))
     have HK9:=aa (fun k (q:E2 w2 k)=>(hK7 k (.inl q)).trans (HK6.out k q))
     clear ho7 hg7 hat7 hR7 hK7 h7b
     refine hK.out _ _ ?_ (fun hHeld=> ?_)
     ·exact HS7.out
     clear hK K
     try simp only[ao]
     refine aE 7 (v:= ?_) rfl ?v7 ?_
     case v7=>(intro w hSw;(try dsimp only at hSw);obtain⟨hSa,hSb,hSc,hSd,hSe,hSf,hSg,hSh,hSi,hSj⟩:=hSw;go_simp;try with_reducible rfl)
     try simp only[ao]
     refine aE 8 (v:= ?_) rfl ?v8 ?_
     case v8=>(intro w hSw;(try dsimp only at hSw);obtain⟨hSa,hSb,hSc,hSd,hSe,hSf,hSg,hSh,hSi,hSj⟩:=hSw;go_simp;try with_reducible rfl)
     try simp only[ao]
     refine aZ 9 rfl (fun K hK=> ?_)
     go_simp
     refine hK.out _ _ ?_ (fun hHeld=> ?_)
     ·exact HS9.out
     clear hK K
     try simp only[ao]
     refine wpAnyH_done (by kernel_rfl) ?_ _
     go_wp2
     go_roundw
     case rel=>exact⟨j+1,T5,M5,evs5,errs++[c5],_,by omega,by go_num,by simp[HEL.out],HJ5.out,HR7.out.less (fun k q=> .inl q),HK9.out⟩
     case measure=>simp[RowKit.intOf];omega
    ·skip
     go_simp
     refine hK.out _ _ ?_ (fun hHeld=> ?_)
     ·exact HS6.out
     clear hK K
     try simp only[ao]
     refine aZ 2 rfl (fun K hK=> ?_)
     go_simp
     refine hK.out _ _ ?_ (fun hHeld=> ?_)
     ·exact hHeld
     clear hK K
     try simp only[ao]
     refine aZ 6 rfl (fun K hK=> ?_)
     refine bJ _ (by rfl) _ _ _ (by rfl) (w2.heap.size+1) 36 i0 (.int .i64 0) 1 8 Tryz.underlying32 hi0 hz0 hz1 hz2 rfl (by decide) (.slice ae errs.length ce) errs.length (errs.map (fun e=> .int .i64 e)) (by rfl) HO6.out ⟨w5.heap.size,0,none⟩ 1 1 [.int .i64 c5] (by rfl) rfl (Cb.lz (w1:=w5) (c:=[.int .i64 c5]) rfl) (by simp[Value.oneCell']) (by unfold maxLen;omega) (by omega) (by have:=HR6.out.lt;omega) ?_
     intro v7 w7 ho7 hg7 hat7
     obtain⟨c7,f7,hR7,hK7⟩:=HR6.out.err ho7 hg7 hat7
     obtain⟨a7,d7,rfl⟩:=Cb.aF ho7
     have HR7:=aa hR7
     have HK7:=aa hK7
     have h7b:=(hK7 _ (.inr rfl)).trans HB6.out
     have HS9:=aa (HS.out _ h7b)
     have HS7:=aa (HS.out w7 ((Below.heap_setCell _ _ _ _ hne2).symm.trans h7b))
     have HK9:=aa (fun k (q:E2 w2 k)=>(hK7 k (.inl q)).trans (HK6.out k q))
     clear ho7 hg7 hat7 hR7 hK7 h7b
     refine hK.out _ _ ?_ (fun hHeld=> ?_)
     ·exact HS7.out
     clear hK K
     try simp only[ao]
     refine aE 7 (v:= ?_) rfl ?v7 ?_
     case v7=>(intro w hSw;(try dsimp only at hSw);obtain⟨hSa,hSb,hSc,hSd,hSe,hSf,hSg,hSh,hSi,hSj⟩:=hSw;go_simp;try with_reducible rfl)
     try simp only[ao]
     refine aE 8 (v:= ?_) rfl ?v8 ?_
     case v8=>(intro w hSw;(try dsimp only at hSw);obtain⟨hSa,hSb,hSc,hSd,hSe,hSf,hSg,hSh,hSi,hSj⟩:=hSw;go_simp;try with_reducible rfl)
     try simp only[ao]
     refine aZ 9 rfl (fun K hK=> ?_)
     go_simp
     refine hK.out _ _ ?_ (fun hHeld=> ?_)
     ·exact HS9.out
     clear hK K
     try simp only[ao]
     refine wpAnyH_done (by kernel_rfl) ?_ _
     go_wp2
     go_roundw
     case rel=>exact⟨j+1,T5,M5,evs5,errs++[c5],_,by omega,by go_num,by simp[HEL.out],HJ5.out,HR7.out.less (fun k q=> .inl q),HK9.out⟩
     case measure=>simp[RowKit.intOf];omega
  ·have hjl': ¬(j:Int)<(len:Int):=by omega
   have ej:j=len:=by omega
   subst ej
   have hbz:wr.heap[w.heap.size+1]? =some (.cells nS 35 (0,0)):=(hK _ ((HE2.out w2 _).2 (.inl (.inr rfl)))).trans ((HB2.out.block _ h12).trans HZ1.out)
   have hBW:=hR.dO
   have hlt1:w.heap.size+1<wr.heap.size:=by have:=hR.lt;omega
   obtain⟨ev,hA,hRB,hEv,hEr,hs,hw0,hrb0⟩:=hR
   obtain⟨ae2,ce2,rfl⟩:=Cb.aF hEv
   have r20:=hRB.c20;have r21:=hRB.c21
   have HSH:=aa AD
   have hne4: ¬w.heap.size+1=w2.heap.size:=by omega
   have HJ:=aa hJ
   have HEV:=aa hEv
   have HER:=aa hEr
   have HBW:=aa hBW
   have HRB:=aa hRB
   have HBZ:=aa hbz
   have HRW:=aa hw0
   clear hA hRB hEv hEr hs hJ hK hbz hBW hel hw0
   go_upto_region 14 with (go_at_call 14;refine(HSH.out _).mono ?_;rintro e w8 ⟨f,rfl,hf,hw8⟩;have hB8: ∀k:Nat,w8.heap[k]? =wr.heap[k]? :=(fun k=>by rw[hw8];rfl);have hRB8:=HRB.out.kept (hB8 _);have r17:=hRB8.c17;have rf17:=hRB8.fz 17;have HRB8:=aa hRB8;have HBZ8:=aa ((hB8 _).trans HBZ.out);have HB8:=aa hB8;have HW8:=aa hw8;have HNF:=aa hf;clear hw8 hB8 hRB8 hf)
   have hrow:=HRB8.out.row f
   have hbz9:(w8.setCell ⟨w2.heap.size,17,none⟩ (.float .f64 f)).heap[w.heap.size+1]? =some (.cells nS 35 (0,0)):=(Below.heap_setCell _ _ _ _ hne4).trans HBZ8.out
   have hk9: ∀k:Nat,k≠w2.heap.size→(w8.setCell ⟨w2.heap.size,17,none⟩ (.float .f64 f)).heap[k]? =wr.heap[k]? :=fun k hk=>(Below.heap_setCell _ _ _ _ hk).trans (HB8.out k)
   have hsz9:(w8.setCell ⟨w2.heap.size,17,none⟩ (.float .f64 f)).heap.size=wr.heap.size:=by rw[HW8.out,World.size_setCell];rfl
   have hot9:(w8.setCell ⟨w2.heap.size,17,none⟩ (.float .f64 f)).os=wr.os∧(w8.setCell ⟨w2.heap.size,17,none⟩ (.float .f64 f)).tape=wr.tape∧(w8.setCell ⟨w2.heap.size,17,none⟩ (.float .f64 f)).output=wr.output:=by rw[HW8.out];exact⟨rfl,rfl,rfl⟩
   generalize (w8.setCell ⟨w2.heap.size,17,none⟩ (.float .f64 f))=w9 at*
   obtain⟨row,hrw⟩: ∃row,(nL (.slice ae2 evs.length ce2) (.slice ae errs.length ce) (fh (fun _=>0) evs) f).toList=row:=⟨_,rfl⟩
   have hAs:row.length=18:=by rw[←hrw];rfl
   have hA1:row.toArray.all (·.oneCell')=true:=by
    rw[←hrw]
    simp[nL,Value.oneCell']
   have hrg:w9.rangeAt w2.heap.size 0 row:=fun j v hv=>by
    rw[Nat.zero_add]
    exact hrow j v (by rw[←hrw] at hv;simpa using hv)
   have hcz: ∀j:Nat,(w9.setRow (w.heap.size+1) row.toArray).cell? ⟨w.heap.size+1,j,none⟩=row[j]? :=fun j=>by rw[cell_setRow_same w9 _ j nS _ _ (0,0) hbz9];simp
   have hinfo:(Tryz.prog.info? 35).map (·.size)=some row.length:=by rw[hAs];kernel_rfl
   have hinfo2:(Tryz.prog.info? 35).map (·.size)=some row.toArray.size:=by rw[List.size_toArray];exact hinfo
   have hzs:nS.size=row.toArray.size:=by show 18=row.toArray.size;rw[List.size_toArray,hAs]
   have HBZ9:=aa hbz9
   have HRG:=aa hrg
   have HA1:=aa hA1
   have HIN:=aa hinfo
   have HIN2:=aa hinfo2
   have HZS:=aa hzs
   have HRWW:=aa hrw
   have HCZ:=aa hcz
   have HAS:=aa hAs
   have HK9:=aa hk9
   have HSZ:=aa hsz9
   have HOT:=aa hot9
   clear hrow hbz9 hk9 hsz9 hot9 hA1 hcz HRB8 HBZ8 HB8 r17 rf17 r20 r21 hrg hinfo hinfo2 hzs hrw hAs
   go_wp2_with (first
    |(refine wpList_load_mid rfl 35 _ rfl w2.heap.size 0 (by rfl) row _ HRG.out Tryz.underlying35 rfl HIN.out ?_)
    |(refine wpList_store_row rfl 35 _ _ rfl (w.heap.size+1) row.toArray (by rfl) (by rfl) 35 nS HBZ9.out HIN2.out HZS.out HA1.out ?_))
   have hlv:=run_loadVar_mid (P:=Tryz.prog) (w9.setRow (w.heap.size+1) row.toArray) (w.heap.size+1) 0 35 row _ (fun j v hv=>by rw[Nat.zero_add];exact(HCZ.out j).trans hv) Tryz.underlying35 rfl HIN.out
   refine bodyPost_ret (v:= .tuple #[.agg row.toArray,.int .i64 0]) ?_ rfl ?_
   ·simp[results,Tryz.f10,asAddr,hlv]
   ·have hrb:=HRW.out
    have hkk: ∀k:Nat,k≠w2.heap.size→k≠w.heap.size+1→(w9.setRow (w.heap.size+1) row.toArray).heap[k]? =wr.heap[k]? :=fun k h1 h2=>(setRow_other _ _ _ _ h2).trans (HK9.out k h1)
    refine⟨_,_,f,T,M,evs,errs,by rw[HLEN.out];exact HJ.out,by rw[←HRWW.out],HNF.out,?_,?_,?_⟩
    ·exact aI (rv HEV.out (by omega)) (fun k q=>by have:=(HEV.out.Ab q).1;exact hkk k (by omega) (by omega))
    ·exact aI (rv HER.out (by omega)) (fun k q=>by have:=(HER.out.lt q).1;exact hkk k (by omega) (by omega))
    ·refine⟨HOT.out.1.trans HBW.out.os,HOT.out.2.1.trans HBW.out.tape,HOT.out.2.2.trans HBW.out.output,?_,fun k hk=>(hkk k (by omega) (by omega)).trans (HBW.out.block k hk)⟩
     have h1:=HBW.out.size
     have h2:(w9.setRow (w.heap.size+1) row.toArray).heap.size=w9.heap.size:=by simp[World.setRow]
     rw[h2,HSZ.out]
     exact h1
end Go.Proofs.YtdbailcdlngemaaGreatDoor
namespace Go.Proofs.YtdbailcdlngemaaGreatDoor
open Go.RowKit Go.Lib Go.Shelf
def fv (x:Nat):Nat:=5
theorem Eg {n P m:Nat} {lv:Nat→Nat} {M:Mc} (h:Rm n P lv n m M):cD M n=none:=by
 cases hf:cD M n with
 |none=>rfl
 |some x=>
  obtain⟨h1,h2⟩:=free_spec hf
  have:=(h.st x h1).1
  omega
theorem Fz {n P c m:Nat} {lv:Nat→Nat} {M:Mc} (h:Rm n P lv c m M):dP M 0 (-1)=false:=by
 unfold dP jS
 rw[h.pr,h.sv]
 decide
theorem RS.full {w V:World} {ad:Ad} {P n q T:Nat} {M:Mc} {rb:Nat} {evs:List Ev} {errs:List Int} {er:Value} {E:Nat→Prop} (h:RS w V ad P n q T M rb evs errs er E) (hG:wS M n) (pg:Int) (lv:Nat) (sv:Int) (hno:dP M pg sv=false) (hf:cD M n=none):
  Calls Tryz.prog 38 #[.pointer (some ⟨ad.m,0,none⟩),.int .i64 pg,.int .u8 (lv:Int),.int .i64 sv] V (xL w ad P n q T M rb evs errs er E 4 [] V):=by
 obtain⟨lab,hi⟩:=h.is
 refine(hi.sD hG pg lv sv hno hf).mono ?_
 rintro e w' ⟨rfl,hb⟩
 exact⟨_,rfl,fT.nil _ _,h.below hb,fun k q=>hb.block k (h.yy q)⟩
def Kx (n:Nat) (M:Mc):Prop:= ∃x:Nat,x<n∧(M.pc 0).r=(x:Int)∧(M.pc 0).m=false∧Pi.dc M.gr.T M.gr.L (x:Int)=Ke.aV ((5:Nat):Int)
theorem Gb {n x:Nat} {M:Mc} {d:Int} (h:Rm n 1 fv n 1 (eW 1 n M 0 x d)) (hx:x<n):Kx n (settle (eW 1 n M 0 x d) n):=by
 obtain⟨g,e,h1,h2,h3⟩:=fY (κ:=fun x=>Ke.aV (fv x:Int)) h.tl h.nol (fun y hy hs=>⟨h.own hy,rfl⟩) (fun z hz=>(h.en z hz).2.2)
 rw[e]
 have e0:(eW 1 n M 0 x d).pc 0=⟨(x:Int),0,false⟩:=(show Gt.aw M.pc 0 ⟨(x:Int),0,false⟩ 0=_ from Gt.aj _ _ _)
 refine⟨x,hx,?_,?_,h3 x hx ?_⟩
 ·show((eW 1 n M 0 x d).pc 0).r=_
  rw[e0]
 ·show((eW 1 n M 0 x d).pc 0).m=_
  rw[e0]
 ·have:=(h.st x hx).1
  omega
theorem BN {n:Nat} {M:Mc} (h:Rm n 1 fv n 1 M) (k:Kx n M) {w:World} {O:Nat→Prop} {pb q T:Nat} (hq:PQ w O pb n 1 q T M.pl) (d:Int):(bb 1 (gh M.pl) ((0:Nat):Int) d).isSome=false∨((bb 1 (gh M.pl) ((0:Nat):Int) d).isSome=true∧gives 1 M 0 d=false):=by
 cases hb:(bb 1 (gh M.pl) ((0:Nat):Int) d).isSome with
 |false=>exact .inl rfl
 |true=>
  refine .inr ⟨rfl,?_⟩
  obtain⟨x,hx,hr,hm,hk⟩:=k
  obtain⟨z,_,_,e,hz,_⟩:=xm hq hb
  have ez:=(h.en z hz).2.2
  unfold gives
  rw[e,ez,hr,hk,hm]
  have:Ke.up (Ke.aV ((fv z.1:Nat):Int)) (Ke.aV ((5:Nat):Int))=false:=by rw[DG];rfl
  rw[this]
  rfl
theorem As {w:World} {lab:Nat→Nat} {ad:Ad} {P n q T:Nat} {M:Mc} (hi:ay w lab ad P n q T M) (hk:0<P) {x:Nat} (hx:x<n) (hr:(M.pc 0).r=(x:Int)) (d:Int) (hd:0≤d∧d<18446744073709551616) (hg:(bb P (gh M.pl) ((0:Nat):Int) d).isSome=false∨((bb P (gh M.pl) ((0:Nat):Int) d).isSome=true∧gives P M 0 d=false))
  (hpx:(M.th x).p=(x:Int)) (hnp:(M.th x).pg=0∧(M.th x).ia=0∧(M.th x).il=0) (p:Pm) (hpr:M.pr=[p]) (hp0:0<p.len) (hO:p.O 0=9) (hh:Pi.jy M.gr.T M.gr.L (x:Int)=[]) (hT:T≤100000) (hn:n≤1024):
  Calls Tryz.prog 34 #[.pointer (some ⟨ad.m,0,none⟩),.int .i64 ((0:Nat):Int),.int .u64 d] w fun e w'=> ∃v,e= .returned (.tuple #[v,.int .i64 0])∧fT w' w.heap.size v ([⟨5,((0:Nat):Int),(M.th x).p,(M.th x).g,9,0⟩]++[⟨10,((0:Nat):Int),(x:Int),((lA M x (sW p 0) (pU p 0 0)).th x).g,0,0⟩])∧kS w w' lab ad P n q (T+n) (settle (eu n (lA M x (sW p 0) (pU p 0 0)) 0 x) n) v:=by
 obtain⟨hpg,hia,hil⟩:=hnp
 have eO:Gk p 0=9:=by unfold Gk Ex.FK Ex.Ax;rw[if_pos (by simp;omega)];exact hO
 have hlt:pU p 0 0<9223372036854775808:=by
  have:pU p 0 0=0:=by
   unfold pU Ex.E7 Ex.B4
   split
   ·rw[if_neg (by show¬p.O 0=1;rw[hO];decide)]
   ·rfl
  rw[this];decide
 refine hi.qY (pr:=0) (T':=T) (M':=eu n (lA M x (sW p 0) (pU p 0 0)) 0 x) (l:=[⟨5,((0:Nat):Int),(M.th x).p,(M.th x).g,9,0⟩]++[⟨10,((0:Nat):Int),(x:Int),((lA M x (sW p 0) (pU p 0 0)).th x).g,0,0⟩]) hk d (by omega) (fun W1 O hs=>AZ (P1:=fun V=>SX w W1 V lab ad P n q T M w.heap.size 0 [] O) (P2:=fun V=>SX w W1 V lab ad P n q T M w.heap.size 0 [] O) ?_ (fun V hV=>hV.pJ hk d (by rw[hr];omega)) (fun V hV=> ?_))
 ·rcases hg with hb|⟨hb,hgv⟩
  ·exact hs.sx.ld hk d hd (.inr hb)
  ·exact hs.sx.pE hk d hd x hx hr hb hgv
 ·refine hV.Ca (ok:=true) (bz:=false) (by simp) hk x hx hr 0 p (by rw[hpr];rfl) (by rw[hpg];rfl) 9 (Ga p 0) (sW p 0) (pU p 0 0) hlt T (eu n (lA M x (sW p 0) (pU p 0 0)) 0 x) ([⟨5,((0:Nat):Int),(M.th x).p,(M.th x).g,9,0⟩]++[⟨10,((0:Nat):Int),(x:Int),((lA M x (sW p 0) (pU p 0 0)).th x).g,0,0⟩]) (fun ap cap V' hp hrt hbl=>by
   have:=Bn (cap:=cap) hp hrt 0 0 (by decide) V' hbl
   rw[eO] at this
   rw[hia,hil]
   exact this) (fun q=>by cases q) (fun _ V' O' hs'=> ?_)
  have eth:((lA M x (sW p 0) (pU p 0 0)).th x).p=(M.th x).p∧((lA M x (sW p 0) (pU p 0 0)).th x).g=(M.th x).g:=by unfold lA;show(Gt.aw M.th x _ x).p=_∧(Gt.aw M.th x _ x).g=_;rw[Gt.aj];exact⟨rfl,rfl⟩
  exact hs'.An (by simp) x hx (Ga p 0) (T':=T) (M':=eu n (lA M x (sW p 0) (pU p 0 0)) 0 x) (l':=[⟨5,((0:Nat):Int),(M.th x).p,(M.th x).g,9,0⟩]++[⟨10,((0:Nat):Int),(x:Int),((lA M x (sW p 0) (pU p 0 0)).th x).g,0,0⟩]) (fun W0 V'' hV''=>hV''.call (R:=fun e=>e= .returned (.tuple #[])) (fun O'' s''=>by
   have:=s''.wz (by simp) hk x hx (by rw[eth.1,hpx]) hh
   rw[eth.1,hpx,eth.2] at this⊢
   exact this))
theorem Es {n:Nat} {M:Mc} (h:Rm n 1 fv n 1 M) {x:Nat} (hx:x<n) (u v:Int):cD (settle (eu n (lA M x u v) 0 x) n) n=some x∧wS (settle (eu n (lA M x u v) 0 x) n) n∧dP (settle (eu n (lA M x u v) 0 x) n) 0 (-1)=false:=by
 have kd:=vZ (eu n (lA M x u v) 0 x) n
 have eth:((lA M x u v).th x).p=(x:Int)∧((lA M x u v).th x).g=M.G x:=by
  unfold lA
  show(Gt.aw M.th x _ x).p=_∧(Gt.aw M.th x _ x).g=_
  rw[Gt.aj]
  exact⟨(h.th x hx).p,by rw[(h.st x hx).2];exact(h.th x hx).g⟩
 have hs:=(h.st x hx).1
 have hS:(eu n (lA M x u v) 0 x).S=Gt.aw M.S x 0:=by
  unfold eu qT
  show l9 n M.G M.S ((lA M x u v).th x).p ((lA M x u v).th x).g=_
  rw[eth.1,eth.2]
  unfold l9
  rw[if_pos (mh hx (by omega))]
  rfl
 refine⟨oK hx (fun y hy=> ?_) ?_,fun y hy=> ?_,?_⟩
 ·rw[kd.S,hS,Gt.af _ _ _ _ (by omega)]
  have:=(h.st y (by omega)).1
  omega
 ·rw[kd.S,hS,Gt.aj]
 ·rw[kd.G]
  show M.G y+1<_
  rw[(h.st y hy).2]
  decide
 ·unfold dP jS
  rw[kd.pr,kd.sv]
  show(!(decide ((0:Int)≤0)&&decide ((0:Int)<(M.pr.length:Int)))||decide ((-1:Int)< -1)||decide ((M.sv.length:Int)≤ -1))=false
  rw[h.pr,h.sv]
  decide
def s5:Ex.En:=Ex.cg 0 5 (-1)
def iw (n:Nat):List Ex.En:=Ex.ck [(9,0)]::(List.replicate (n+1) s5++[Ex.bo 0 0,Ex.bo 0 0,s5])
theorem kH (n:Nat):(iw n).length=n+5:=by simp[iw]
theorem CD {n c:Nat} (h:c≤n):(iw n)[c+1]? =some s5:=by
 show(List.replicate (n+1) s5++_)[c]? =_
 rw[List.getElem?_append_left (by simp;omega),List.getElem?_replicate,if_pos (by omega)]
theorem kD (n j:Nat):(iw n)[n+2+j]? =[Ex.bo 0 0,Ex.bo 0 0,s5][j]? :=by
 have e:n+2+j=(n+1+j)+1:=by omega
 rw[e]
 show(List.replicate (n+1) s5++_)[n+1+j]? =_
 rw[List.getElem?_append_right (by simp),List.length_replicate,Nat.add_sub_cancel_left]
def ks (l:List Ev):List Int:=l.map (fun e=>e.k)
theorem oZ (l l':List Ev):ks (l++l')=ks l++ks l':=List.map_append
theorem oX {l:List Ev} {k:List Int} (h:ks l=k):l.length=k.length:=by rw[←h];simp[ks]
def Jf (n j T:Nat) (M:Mc) (evs:List Ev) (errs:List Int):Prop:=
 (j=0→T=0∧M=gJ 1 n 0 9 9∧evs=[]∧errs=[])∧
 (∀c,c≤n→j=c+1→T≤c*100∧(∃p,M.pr=[p]∧0<p.len∧p.O 0=9)∧Rm n 1 fv c 0 M∧ks evs=List.replicate c 9∧errs=List.replicate (c+1) 0)∧
 (j=n+2→T≤1000∧(∃p,M.pr=[p]∧0<p.len∧p.O 0=9)∧Rm n 1 fv n 0 M∧ks evs=List.replicate n 9∧errs=List.replicate (n+1) 0++[4])∧
 (j=n+3→T≤2000∧(∃p,M.pr=[p]∧0<p.len∧p.O 0=9)∧Rm n 1 fv n 1 M∧Kx n M∧ks evs=List.replicate n 9++[3]∧errs=List.replicate (n+1) 0++[4,0])∧
 (j=n+4→T≤3000∧(∃x,cD M n=some x)∧wS M n∧dP M 0 (-1)=false∧ks evs=List.replicate n 9++[3,5,10]∧errs=List.replicate (n+1) 0++[4,0,0])∧
 (j=n+5→ks evs=List.replicate n 9++[3,5,10,9]∧errs=List.replicate (n+1) 0++[4,0,0,0])
theorem G4 (n:Nat):Jf n 0 0 (gJ 1 n 0 9 9) [] []:=⟨fun _=>⟨rfl,rfl,rfl,rfl⟩,fun c _ e=>by omega,fun e=>by omega,fun e=>by omega,fun e=>by omega,fun e=>by omega⟩
theorem CC:Ex.Rt 1 (Ex.cO [(9,0)]) (Ex.cR [(9,0)]):=by
 refine⟨0,.inr (.inr (.inr ⟨by decide,by decide,?_,.inr rfl,rfl,rfl⟩))⟩
 intro i hi
 match i,hi with
 |0,_=>decide
theorem yi (n:Nat) (hn1:1≤n) (hn:n≤5) (w:World):Steps w 1 n 1 (iw n) (Jf n):=by
 intro j x hx V ad T M rb evs errs er E a cap hJ hR hp
 have hl:j<n+5:=by
  have:=(List.getElem?_eq_some_iff.1 hx).1
  rw[kH] at this
  exact this
 obtain⟨O,hpq⟩:=hR.pq
 have hd:(0:Int)≤((0:Nat):Int)∧((0:Nat):Int)<18446744073709551616:=by decide
 by_cases e0:j=0
 ·subst e0
  injection hx with hx
  subst hx
  obtain⟨rfl,rfl,rfl,rfl⟩:=hJ.1 rfl
  refine(hR.Af 0 0 0 a 1 cap 0 0 0 0 0 (by simp) (Ex.cO [(9,0)]) (Ex.cR [(9,0)]) hp CC (by show 0<16;decide)).mono ?_
  intro e w' hC
  exact⟨0,_,[],0,hC,fun e=>by omega,fun c hc e=>by obtain rfl:c=0:=(by omega);exact⟨Nat.le_refl _,⟨_,rfl,by decide,rfl⟩,DT 1 n 0 9 9 fv _,rfl,rfl⟩,fun e=>by omega,fun e=>by omega,fun e=>by omega,fun e=>by omega⟩
 by_cases e1:j≤n+1
 ·obtain⟨c,rfl⟩: ∃c,j=c+1:=⟨j-1,by omega⟩
  have hc:c≤n:=by omega
  rw[CD hc] at hx
  injection hx with hx
  subst hx
  obtain⟨hT,⟨p,hpr,hp0,hO⟩,hRm,hk,rfl⟩:=hJ.2.1 c hc rfl
  have hel:=oX hk
  rw[List.length_replicate] at hel
  by_cases hcn:c<n
  ·refine(hR.mG (T':=T+n+1+n) (c:=0) (l:=[⟨9,0,(c:Int),M.G c+1,0,0⟩]) (M':=gS 1 n 1 M c 0 5 (-1)) 0 0 0 a 0 cap 0 0 0 5 (-1) (fun e he=>⟨9,by decide,by rw[List.mem_singleton.1 he];rfl⟩) (by simp;omega) (fun V' E' hV=>hV.call (R:=fun e w' v=>e= .returned (.tuple #[v,.int .i64 0])) (fun lab hi=>(hi.mu (by omega) hRm.wS 0 5 (by decide) (-1) (Fz hRm) c (hRm.free hcn)).mono (fun e w' ⟨v,he,hv,hg⟩=>⟨v,he,hv,hg⟩)))).mono ?_
   intro e w' hC
   refine⟨_,_,_,0,hC,fun e=>by omega,fun c' hc' e=> ?_,fun e=>by omega,fun e=>by omega,fun e=>by omega,fun e=>by omega⟩
   obtain rfl:c'=c+1:=by omega
   refine⟨by omega,⟨p,by rw[vR];exact hpr,hp0,hO⟩,hRm.start (by decide) hpq.len hcn (show 5<256 by decide),?_,?_⟩
   ·rw[oZ,hk,List.replicate_succ']
    rfl
   ·rw[List.replicate_succ' (n:=c+1)]
  ·obtain rfl:c=n:=by omega
   refine(hR.mG (T':=T) (c:=4) (l:=[]) (M':=M) 0 0 0 a 0 cap 0 0 0 5 (-1) (fun e he=>by cases he) (by simp;omega) (fun V' E' hV=>hV.full hRm.wS 0 5 (-1) (Fz hRm) (Eg hRm))).mono ?_
   intro e w' hC
   rw[List.append_nil] at hC
   exact⟨_,_,_,4,hC,fun e=>by omega,fun c' hc' e=>by omega,fun e=>⟨by omega,⟨p,hpr,hp0,hO⟩,hRm,hk,rfl⟩,fun e=>by omega,fun e=>by omega,fun e=>by omega⟩
 by_cases e2:j=n+2
 ·subst e2
  have hx':=hx
  rw[show n+2=n+2+0 from rfl,kD] at hx'
  injection hx' with hx'
  subst hx'
  obtain⟨hT,⟨p,hpr,hp0,hO⟩,hRm,hk,rfl⟩:=hJ.2.2.1 rfl
  have hel:=oX hk
  rw[List.length_replicate] at hel
  have hr:(M.pc 0).r= -1:=hRm.pm 0 (Nat.le_refl _) (by decide)
  have hS:M.S 0=1:=by
   rcases(hRm.st 0 (by omega)).1 with e|e
   ·exact e
   ·exfalso
    have:=sO (f:=fun _=>false) (g:=fun i=>M.S i==2) (x:=0) n (fun i _ q=>by cases q) (by omega) rfl (by simp[e])
    rw[hRm.cn] at this
    omega
  have hb:(bb 1 (gh M.pl) ((0:Nat):Int) ((0:Nat):Int)).isSome=true:=by
   cases hb:(bb 1 (gh M.pl) ((0:Nat):Int) ((0:Nat):Int)).isSome with
   |true=>rfl
   |false=>exact absurd (hRm.ne 0 (by omega) hS) (uV hpq.len (by decide) hb _)
  obtain⟨x,hxn,hbi,_,hU⟩:=hRm.ET hpq (by decide) ((0:Nat):Int) hb
  refine(hR.uE (T':=T+1+n) (c:=0) (l:=[⟨3,((0:Nat):Int),(M.th x).p,(M.th x).g,(bA (bb 1 (gh M.pl) ((0:Nat):Int) ((0:Nat):Int))),0⟩]) (M':=settle (eW 1 n M 0 x ((0:Nat):Int)) n) 0 0 0 a 0 cap 0 0 0 0 0 (fun e he=>⟨3,by decide,by rw[List.mem_singleton.1 he];rfl⟩) (by simp;omega) (fun V' E' hV=>hV.call (R:=fun e w' v=>e= .returned (.tuple #[v,.int .i64 0])) (fun lab hi=>(hi.qY (pr:=0) (T':=T+1) (by decide) ((0:Nat):Int) (by omega) (fun W1 O hs=>wC (P1:=fun V=>SX V' W1 V lab ad 1 n 1 T M V'.heap.size 0 [] O) (hs.sx.ld (by decide) ((0:Nat):Int) hd (.inl hr)) (fun V hV=>hV.nJ (by simp) (by decide) ((0:Nat):Int) hd hr hb x hxn hbi))).mono (fun e w' ⟨v,he,hev,g⟩=>⟨v,he,hev,g⟩)))).mono ?_
  intro e w' hC
  refine⟨_,_,_,0,hC,fun e=>by omega,fun c' hc' e=>by omega,fun e=>by omega,fun e=>⟨by omega,⟨p,hpr,hp0,hO⟩,hU.settle,Gb hU hxn,?_,?_⟩,fun e=>by omega,fun e=>by omega⟩
  ·rw[oZ,hk]
   rfl
  ·rw[List.append_assoc]
   rfl
 by_cases e3:j=n+3
 ·subst e3
  have hx':=hx
  rw[show n+3=n+2+1 from rfl,kD] at hx'
  injection hx' with hx'
  subst hx'
  obtain⟨hT,⟨p,hpr,hp0,hO⟩,hRm,hK,hk,rfl⟩:=hJ.2.2.2.1 rfl
  have hel:=oX hk
  rw[List.length_append,List.length_replicate] at hel
  have hst:=BN hRm hK hpq ((0:Nat):Int)
  obtain⟨x,hxn,hr,_,_⟩:=hK
  obtain⟨g1,g2,g3⟩:=Es hRm hxn (sW p 0) (pU p 0 0)
  refine(hR.uE (T':=T+n) (c:=0) (l:=[⟨5,((0:Nat):Int),(M.th x).p,(M.th x).g,9,0⟩]++[⟨10,((0:Nat):Int),(x:Int),((lA M x (sW p 0) (pU p 0 0)).th x).g,0,0⟩]) (M':=settle (eu n (lA M x (sW p 0) (pU p 0 0)) 0 x) n) 0 0 0 a 0 cap 0 0 0 0 0 (fun e he=> ?_) (by simp at hel⊢;omega) (fun V' E' hV=>hV.call (R:=fun e w' v=>e= .returned (.tuple #[v,.int .i64 0])) (fun lab hi=>As hi (by decide) hxn hr ((0:Nat):Int) hd hst (hRm.th x hxn).p (hRm.np x hxn) p hpr hp0 hO (yU hRm.hd x) (by omega) (by omega)))).mono ?_
  ·rcases List.mem_append.1 he with he|he
   ·exact⟨5,by decide,by rw[List.mem_singleton.1 he];rfl⟩
   ·exact⟨10,by decide,by rw[List.mem_singleton.1 he];rfl⟩
  intro e w' hC
  refine⟨_,_,_,0,hC,fun e=>by omega,fun c' hc' e=>by omega,fun e=>by omega,fun e=>by omega,fun e=>⟨by omega,⟨x,g1⟩,g2,g3,?_,?_⟩,fun e=>by omega⟩
  ·rw[oZ,hk,List.append_assoc]
   rfl
  ·rw[List.append_assoc]
   rfl
 ·obtain rfl:j=n+4:=by omega
  have hx':=hx
  rw[show n+4=n+2+2 from rfl,kD] at hx'
  injection hx' with hx'
  subst hx'
  obtain⟨hT,⟨y,hf⟩,hG,hno,hk,rfl⟩:=hJ.2.2.2.2.1 rfl
  have hel:=oX hk
  rw[List.length_append,List.length_replicate] at hel
  refine(hR.mG (T':=T+n+1+n) (c:=0) (l:=[⟨9,0,(y:Int),M.G y+1,0,0⟩]) (M':=gS 1 n 1 M y 0 5 (-1)) 0 0 0 a 0 cap 0 0 0 5 (-1) (fun e he=>⟨9,by decide,by rw[List.mem_singleton.1 he];rfl⟩) (by simp at hel⊢;omega) (fun V' E' hV=>hV.call (R:=fun e w' v=>e= .returned (.tuple #[v,.int .i64 0])) (fun lab hi=>(hi.mu (by omega) hG 0 5 (by decide) (-1) hno y hf).mono (fun e w' ⟨v,he,hv,hg⟩=>⟨v,he,hv,hg⟩)))).mono ?_
  intro e w' hC
  refine⟨_,_,_,0,hC,fun e=>by omega,fun c' hc' e=>by omega,fun e=>by omega,fun e=>by omega,fun e=>by omega,fun e=>⟨?_,?_⟩⟩
  ·rw[oZ,hk,List.append_assoc]
   rfl
  ·rw[List.append_assoc]
   rfl
theorem cZ (n:Nat):Ex.gL (iw n):=by
 intro x hx
 rcases List.mem_cons.1 hx with rfl|hx
 ·exact⟨.inr (.inr (.inl ⟨rfl,CC⟩)),⟨by decide,by decide,by decide,by decide⟩⟩
 ·have h5:Ex.aU s5∧Ex.pV s5:=⟨.inr (.inr (.inr (.inr ⟨rfl,by decide,by decide,by decide,by decide⟩))),⟨by decide,by decide,by decide,by decide⟩⟩
  rcases List.mem_append.1 hx with hx|hx
  ·rw[(List.mem_replicate.1 hx).2]
   exact h5
  ·simp only[List.mem_cons,List.not_mem_nil,or_false] at hx
   rcases hx with rfl|rfl|rfl
   ·exact⟨.inl ⟨rfl,by decide,by decide⟩,⟨by decide,by decide,by decide,by decide⟩⟩
   ·exact⟨.inl ⟨rfl,by decide,by decide⟩,⟨by decide,by decide,by decide,by decide⟩⟩
   ·exact h5
theorem CW (k:Nat) (evs:List Ev):fh (fun _=>0) evs k=((ks evs).filter (fun e=>e==(k:Int))).length:=by
 unfold fh ks
 rw[List.filter_map,List.length_map,Nat.zero_add]
 rfl
theorem yc (n:Nat) (hn1:1≤n) (hn:n≤5) (w:World) (ht:Gt.lx w) (base:Nat) (bv:Value) (hr:w.ownsRow base 5 1 bv (Ex.all (iw n)).length (Ex.dz (Ex.all (iw n)))):
  Calls Tryz.prog 10 #[.agg #[.int .i64 1,.int .i64 (n:Int),.int .i64 1,.int .i64 0,.int .u64 9,.int .u64 9],bv] w fun e w'=> ∃ev g c f cn,(∃a1 l1 c1,ev= .slice a1 l1 c1)∧e= .returned (.tuple #[.agg (nL ev (.slice (some ⟨g,0,none⟩) (n+5) c) cn f),.int .i64 0])∧cn 9=n+1∧cn 10=1∧w'.cell? ⟨g,n+1,none⟩=some (.int .i64 4)∧w'.cell? ⟨g,n+4,none⟩=some (.int .i64 0)∧Below w.heap.size w w':=by
 refine(DA 1 n 1 0 9 9 (by decide) ⟨hn1,by omega⟩ (by decide) (by decide) (by decide) (by decide) w ht bv (iw n) (by rw[kH];omega) (fun V hb=> ?_) (Jf n) (G4 n) (yi n hn1 hn w)).mono ?_
 ·refine(Ex.Ak V base bv (Ex.all (iw n)) (Ex.eN hr hb) (Ex.uW (cZ n)) ?_).mono fun e w' h=>h.qa ⟨cZ n,rfl⟩
  have:=Ex.rS (iw n) (fun x hx=>(cZ n x hx).1)
  rw[kH] at this
  omega
 ·rintro e w' ⟨ev,er,f,T,M,evs,errs,hJ,he,_,hev,her,hb⟩
  rw[kH] at hJ
  obtain⟨hk,rfl⟩:=hJ.2.2.2.2.2 rfl
  have hlen:(List.replicate (n+1) (0:Int)++[4,0,0,0]).length=n+5:=by simp
  have hat: ∀i u,(List.replicate (n+1) (0:Int)++[4,0,0,0])[n+1+i]? =some u→([4,0,0,0]:List Int)[i]? =some u:=fun i u h=>by
   rwa [List.getElem?_append_right (by simp),List.length_replicate,Nat.add_sub_cancel_left] at h
  have hat': ∀i u,([4,0,0,0]:List Int)[i]? =some u→(List.replicate (n+1) (0:Int)++[4,0,0,0])[n+1+i]? =some u:=fun i u h=>by
   rwa [List.getElem?_append_right (by simp),List.length_replicate,Nat.add_sub_cancel_left]
  rcases her with ⟨_,⟨_,hz⟩|⟨g2,c2,cur,rfl,_,hg,hrow⟩⟩
  ·omega
  ·have hc: ∀i u,(List.replicate (n+1) (0:Int)++[4,0,0,0])[i]? =some u→w'.cell? ⟨g2,i,none⟩=some (.int .i64 u):=fun i u h=>by
    have h':((List.replicate (n+1) (0:Int)++[4,0,0,0]).map (fun e=>Value.int .i64 e))[i]? =some (.int .i64 u):=by rw[List.getElem?_map,h];rfl
    rw[←hrow.2.2.2,List.getElem?_take] at h'
    split at h'
    ·simp only[World.cell?,hg]
     simpa using h'
    ·cases h'
   rw[hlen] at he
   obtain⟨a1,c1,e1⟩:=Cb.aF hev
   refine⟨ev,g2,c2,f,_,⟨a1,_,c1,e1⟩,he,?_,?_,hc (n+1) 4 (hat' 0 4 rfl),hc (n+4) 0 (hat' 3 0 rfl),hb⟩
   ·rw[CW,hk,List.filter_append,List.filter_replicate]
    simp
   ·rw[CW,hk,List.filter_append,List.filter_replicate]
    simp
theorem fH (w:World) (l:List Value) (t:TypeId): ∀j u,l[j]? =some u→(w.alloc (.cells l.toArray t)).cell? ((⟨w.heap.size,0,none⟩:Addr).add j)=some u:=fun j u h=>by
 have hadd:(⟨w.heap.size,0,none⟩:Addr).add j=⟨w.heap.size,j,none⟩:=by unfold Addr.add;split<;>simp_all
 rw[hadd]
 exact aT w l.toArray t j u (by simpa using h)
def GP (k:Nat):List Value:=[.int .i64 3,.int .i64 0,.int .u64 0,.int .i64 0,.slice (some ⟨k,0,none⟩) 1 1,.int .u64 0,.int .u64 0,.int .i64 0,.int .u8 0,.int .i64 0]
def EB:List Value:=[.int .i64 5,.int .i64 0,.int .u64 0,.int .i64 0,.slice none 0 0,.int .u64 0,.int .u64 0,.int .i64 0,.int .u8 5,.int .i64 (-1)]
def EU:List Value:=[.int .i64 1,.int .i64 0,.int .u64 0,.int .i64 0,.slice none 0 0,.int .u64 0,.int .u64 0,.int .i64 0,.int .u8 0,.int .i64 0]
theorem jM {W:World} {x:Ex.En} (h:x.code=[]) (hw:Ex.pV x):Ex.Fit W (x,none,0):=⟨fun V _=>by rw[h];exact Ex.js V none,by rw[h];decide,.inl (by rw[h];decide),hw⟩
theorem xb (V:World):Ex.Fit (V.alloc (.cells #[.int .i64 9,.int .i64 0] 48)) (Ex.ck [(9,0)],some ⟨V.heap.size,0,none⟩,1):=by
 refine⟨fun U hU=> .inr ⟨V.heap.size,0,rfl,?_,fun j hj=> ?_⟩,(show 1<9223372036854775808 by decide),.inl (show 1≤64 by decide),(cZ 0 _ (by simp[iw])).2⟩
 ·have:=hU.size
  simp at this
  omega
 ·have:j<1:=hj
  obtain rfl:j=0:=by omega
  exact⟨kc hU (aT V _ _ 0 _ rfl),kc hU (aT V _ _ 1 _ rfl)⟩
structure Tf (W1 wr:World) (n k:Nat) (v:Value):Prop where
 at_: ∃Z:Ex.Zs,Z.map (·.1)=(iw n).take k∧Z.length=k∧wr.ownsRow W1.heap.size 51 10 v Z.length (Ex.dq Z)∧(∀z∈Z,Ex.Fit W1 z)
 dO:Below W1.heap.size W1 wr
theorem Tf.first (V:World) (n:Nat):Tf (V.alloc (.cells #[.int .i64 9,.int .i64 0] 48)) ((V.alloc (.cells #[.int .i64 9,.int .i64 0] 48)).alloc (.cells (GP V.heap.size).toArray 51)) n 1 (.slice (some ⟨V.heap.size+1,0,none⟩) 1 1):=by
 refine⟨⟨[(Ex.ck [(9,0)],some ⟨V.heap.size,0,none⟩,1)],rfl,rfl,?_,fun z hz=> ?_⟩,(Below.refl _ _).alloc (Nat.le_refl _) _⟩
 ·have hz:(V.alloc (.cells #[.int .i64 9,.int .i64 0] 48)).heap.size=V.heap.size+1:=by simp
  refine⟨rfl,.inr ⟨V.heap.size+1,1,(GP V.heap.size).toArray,rfl,by omega,?_,Nat.le_refl _,by unfold maxLen;omega,rfl,rfl⟩⟩
  rw[←hz]
  exact(MapKept.heap_alloc _ _).1
 ·rw[List.mem_singleton.1 hz]
  exact xb V
theorem Tf.slice {W1 wr:World} {n k:Nat} {v:Value} (h:Tf W1 wr n k v): ∃a c,v= .slice a k c:=by
 obtain⟨Z,_,hl,ho,_⟩:=h.at_
 obtain⟨a,c,e⟩:=Cb.aF ho
 exact⟨a,c,by rw[e,hl]⟩
theorem Tf.GI {W1 wr:World} {n:Nat} {a:Option Addr} {c:Nat} (h:Tf W1 wr n (n+5) (.slice a (n+5) c)):Ex.F1 wr a (iw n):=by
 obtain⟨Z,hm,hl,ho,hf⟩:=h.at_
 obtain⟨a',c',e,hE⟩:=Ex.DU ho h.dO hf
 injection e with e
 rw[e]
 rw[hm,List.take_of_length_le (by rw[kH];exact Nat.le_refl _)] at hE
 exact hE
theorem Tf.more {W1 w3:World} {n k m:Nat} {v3:Value} {Z:Ex.Zs} (h1:Z.map (·.1)=(iw n).take k) (h2:Z.length=k) (h4: ∀z∈Z,Ex.Fit W1 z) (Y:Ex.Zs) (hY:(iw n).take (k+m)=(iw n).take k++Y.map (·.1)) (hm:Y.length=m) (hf: ∀z∈Y,Ex.Fit W1 z) (hb:Below W1.heap.size W1 w3)
  (ho:w3.ownsRow W1.heap.size 51 10 v3 (k+m) (Ex.dq Z++Ex.dq Y)):Tf W1 w3 n (k+m) v3:=by
 refine⟨⟨Z++Y,by rw[List.map_append,h1,hY],by rw[List.length_append,h2,hm],?_,fun z hz=> ?_⟩,hb⟩
 ·rw[List.length_append,h2,hm,Ex.iQ]
  exact ho
 ·rcases List.mem_append.1 hz with q|q
  ·exact h4 z q
  ·exact hf z q
theorem Fw {n j:Nat} (h:j≤n):(iw n).take (j+1+1)=(iw n).take (j+1)++[s5]:=Ex.take_one (CD h)
theorem DQ (n:Nat):(iw n).take (n+2+3)=(iw n).take (n+2)++[Ex.bo 0 0,Ex.bo 0 0,s5]:=by
 have h0:=Ex.take_one (L:=iw n) (j:=n+2) (x:=Ex.bo 0 0) (kD n 0)
 have h1:=Ex.take_one (L:=iw n) (j:=n+3) (x:=Ex.bo 0 0) (kD n 1)
 have h2:=Ex.take_one (L:=iw n) (j:=n+4) (x:=s5) (kD n 2)
 rw[show n+2+3=n+4+1 from rfl,h2,show n+4=n+3+1 from rfl,h1,show n+3=n+2+1 from rfl,h0]
 simp
theorem oW (x:Nat) (hx:x<256) (w:World) (ht:Gt.lx w):
  Calls Tryz.prog 5 #[.int .u8 (x:Int)] w fun e w'=>e= .returned (.bool true)∧Below w.heap.size w w':=by
 have a0:IntKind.i64.wrap (x:Int)=(x:Int):=by simp[IntKind.wrap,IntKind.bits,IntKind.signed];omega
 have a1:Int.tmod (x:Int) 5=((x%5:Nat):Int):=by rw[Int.tmod_eq_emod_of_nonneg (by omega)];rfl
 obtain⟨t,ht5,hte⟩: ∃t,t<5∧x%5=t:=⟨_,by omega,rfl⟩
 rw[hte] at a1
 clear hte
 obtain⟨V,hV⟩: ∃V,w.alloc (.cells #[.int .i64 1,.int .i64 ((t:Int)+1),.int .i64 1,.int .i64 0,.int .u64 9,.int .u64 9] 41)=V:=⟨_,rfl⟩
 obtain⟨W1,hW1⟩: ∃W1,V.alloc (.cells #[.int .i64 9,.int .i64 0] 48)=W1:=⟨_,rfl⟩
 have hbV:Below w.heap.size w V:=by rw[←hV];exact(Below.refl _ _).alloc (Nat.le_refl _) _
 have hbW:Below w.heap.size w W1:=by rw[←hW1];exact hbV.alloc hbV.size _
 have hzV:V.heap.size=w.heap.size+1:=by rw[←hV];simp
 have HF0:Hid (Tf W1 (((w.alloc (.cells #[.int .i64 1,.int .i64 ((t:Int)+1),.int .i64 1,.int .i64 0,.int .u64 9,.int .u64 9] 41)).alloc (.cells #[.int .i64 9,.int .i64 0] 48)).alloc (.cells #[.int .i64 3,.int .i64 0,.int .u64 0,.int .i64 0,.slice (some ⟨w.heap.size+1,0,none⟩) 1 1,.int .u64 0,.int .u64 0,.int .i64 0,.int .u8 0,.int .i64 0] 51)) (t+1) 1 (.slice (some ⟨w.heap.size+1+1,0,none⟩) 1 1)):=by
  rw[hV]
  have:=Tf.first V (t+1)
  rw[hW1,hzV] at this
  rw[hW1]
  exact this
 have HCF:Hid (∀U,Below W1.heap.size W1 U→U.cell? ⟨w.heap.size,0,none⟩=some (.int .i64 1)∧U.cell? ⟨w.heap.size,1,none⟩=some (.int .i64 ((t:Int)+1))∧U.cell? ⟨w.heap.size,2,none⟩=some (.int .i64 1)∧U.cell? ⟨w.heap.size,3,none⟩=some (.int .i64 0)∧U.cell? ⟨w.heap.size,4,none⟩=some (.int .u64 9)∧U.cell? ⟨w.heap.size,5,none⟩=some (.int .u64 9)):=fun U hU=>by
  have hVU:Below V.heap.size V U:=(by rw[←hW1];exact(Below.refl _ _).alloc (Nat.le_refl _) _:Below V.heap.size V W1).trans (hU.mono (by rw[←hW1];simp))
  rw[←hV] at hVU
  exact⟨kc hVU (aT w _ _ 0 _ rfl),kc hVU (aT w _ _ 1 _ rfl),kc hVU (aT w _ _ 2 _ rfl),kc hVU (aT w _ _ 3 _ rfl),kc hVU (aT w _ _ 4 _ rfl),kc hVU (aT w _ _ 5 _ rfl)⟩
 have HRUN:Hid (∀U base bv,Below w.heap.size w U→U.ownsRow base 5 1 bv (Ex.all (iw (t+1))).length (Ex.dz (Ex.all (iw (t+1))))→Calls Tryz.prog 10 #[.agg #[.int .i64 1,.int .i64 ((t:Int)+1),.int .i64 1,.int .i64 0,.int .u64 9,.int .u64 9],bv] U fun e w'=> ∃a1 c1 l1 g c f cn,e= .returned (.tuple #[.agg (nL (.slice a1 l1 c1) (.slice (some ⟨g,0,none⟩) (t+6) c) cn f),.int .i64 0])∧(cn 9:Int)=(t:Int)+2∧(cn 10:Int)=1∧w'.cell? ⟨g,t+2,none⟩=some (.int .i64 4)∧w'.cell? ⟨g,t+5,none⟩=some (.int .i64 0)∧Below U.heap.size U w'):=fun U base bv hb ho=>by
  have:=yc (t+1) (by omega) (by omega) U (ht.below hb) base bv ho
  rw[show((t+1:Nat):Int)=(t:Int)+1 from rfl] at this
  refine this.mono ?_
  rintro e w' ⟨ev,g,c,f,cn,⟨a1,l1,c1,rfl⟩,he,h9,h10,k1,k2,hb'⟩
  exact⟨a1,c1,l1,g,c,f,cn,he,by rw[h9];rfl,by rw[h10];rfl,k1,k2,hb'⟩
 have HEN:Hid (∀U a c,Tf W1 U (t+1) (t+6) (.slice a (t+6) c)→Calls Tryz.prog 12 #[.slice a (t+6) c] U fun e w'=> ∃v,e= .returned (.tuple #[v,.int .i64 0])∧w'.ownsRow U.heap.size 5 1 v (Ex.all (iw (t+1))).length (Ex.dz (Ex.all (iw (t+1))))∧Below U.heap.size U w'):=fun U a c h=>by
  have hl:(iw (t+1)).length=t+6:=by rw[kH]
  have:=Ex.Ce U a (iw (t+1)) c (by rw[hl];omega) (Tf.GI (n:=t+1) h)
  rw[hl] at this
  refine this.mono ?_
  intro e w' h
  obtain⟨v,he,ho,hb⟩:=h.yes (fun x hx=>(cZ (t+1) x hx).1)
  exact⟨v,he,ho,hb⟩
 obtain⟨i0,hi,hz0,hz1,hz2⟩:=Cb.info_parts Ex.nA
 have HBW:=aa hbW
 clear ht hbV hbW hzV hV hW1
 have FITS:Hid (∀z∈([(Ex.bo 0 0,none,0),(Ex.bo 0 0,none,0),(s5,none,0)]:Ex.Zs),Ex.Fit W1 z):=fun z hz=>by
  simp only[List.mem_cons,List.not_mem_nil,or_false] at hz
  rcases hz with rfl|rfl|rfl
  ·exact jM rfl (cZ 0 (Ex.bo 0 0) (by simp[iw])).2
  ·exact jM rfl (cZ 0 (Ex.bo 0 0) (by simp[iw])).2
  ·exact jM rfl (cZ 0 s5 (by simp[iw])).2
 go_enter Tryz.func5,Tryz.ntmps5
 go_wp2
 go_loopw [5,6] (fun s i wr=> ∃(j:Nat),j≤t+2∧i= .int .i64 (j:Int)∧Tf W1 wr (t+1) (j+1) s) (fun _ i _=>t+2-(RowKit.intOf i).toNat)
 case atStart=>exact⟨0,by omega,rfl,HF0.out⟩
 case round=>
  obtain⟨j,hj,rfl,hT⟩:=hrel
  obtain⟨va,vc,rfl⟩:=hT.slice
  have HT:=aa hT
  have hsz:=hT.dO.size
  obtain⟨Z,hZm,hZl,hZo,hZf⟩:=hT.at_
  rw[hZl] at hZo
  have HO:=aa hZo
  have HZM:=aa hZm
  have HZL:=aa hZl
  have HZF:=aa hZf
  have HB:=aa hT.dO
  have hw0:=HBW.out.size
  clear HF0 hZo hZm hZf hZl HT
  by_cases hjl:j≤t+1
  ·have hjl':(j:Int)≤(t:Int)+1:=by omega
   clear hT
   go_wp2_with (at_builtin;refine wpList_append_own _ rfl _ _ 52 rfl W1.heap.size 51 i0 _ 10 96 Tryz.underlying52 hi hz0 hz1 hz2 rfl (by decide) (.slice va (j+1) vc) (j+1) _ rfl (World.ownsRow.alloc HO.out _) ⟨wr.heap.size,0,none⟩ 1 1 EB rfl rfl (fH wr EB _) (by simp[EB,Value.oneCell']) (by unfold maxLen;omega) (by omega) (by simp;omega) ?_;intro v3 w3 ho3 hg3 _;have HO3:=aa ho3;have HG3:=aa hg3;clear ho3 hg3)
   refine⟨⟨j+1,by omega,by go_num,Tf.more (k:=j+1) (m:=1) HZM.out HZL.out HZF.out [(s5,none,0)] (Fw hjl) rfl (fun z hz=>by rw[List.mem_singleton.1 hz];exact jM rfl (cZ 0 s5 (by simp[iw])).2) ((HB.out.alloc hsz _).grown HG3.out (by simp;omega) (fun k hk=>(HO.out.lt k hk).1)) HO3.out⟩,by simp[RowKit.intOf];omega⟩
  ·obtain rfl:j=t+2:=by omega
   have hjl': ¬((t:Int)+2≤(t:Int)+1):=by omega
   clear hT
   go_wp2_with (at_builtin;refine wpList_append_own _ rfl _ _ 52 rfl W1.heap.size 51 i0 _ 10 96 Tryz.underlying52 hi hz0 hz1 hz2 rfl (by decide) (.slice va (t+2+1) vc) (t+2+1) _ rfl (World.ownsRow.alloc HO.out _) ⟨wr.heap.size,0,none⟩ 3 3 (EU++EU++EB) rfl rfl (fH wr (EU++EU++EB) _) (by simp[EU,EB,Value.oneCell']) (by unfold maxLen;omega) (by omega) (by simp;omega) ?_;intro v3 w3 ho3 hg3 _;have hT3:=Tf.more (k:=t+3) (m:=3) HZM.out HZL.out HZF.out [(Ex.bo 0 0,none,0),(Ex.bo 0 0,none,0),(s5,none,0)] (DQ (t+1)) rfl FITS.out ((HB.out.alloc hsz _).grown hg3 (by simp;omega) (fun k hk=>(HO.out.lt k hk).1)) ho3;obtain⟨va3,vc3,rfl⟩:=hT3.slice;have HT3:=aa hT3;have hz3:=hT3.dO.size;clear ho3 hg3 hT3)
   go_wp2_with (go_at_call 12;refine(HEN.out _ _ _ HT3.out).mono ?_;rintro e w4 ⟨v4,rfl,ho4,hb4⟩;have HO4:=aa ho4;have HB4:=aa (HT3.out.dO.trans (hb4.mono hz3));have hcf:=HCF.out _ HB4.out;obtain⟨f0,f1,f2,f3,f4,f5⟩:=hcf;clear hb4 ho4)
   go_wp2_with (go_at_call 10;refine(HRUN.out _ _ _ (HBW.out.trans (HB4.out.mono hw0)) HO4.out).mono ?_;rintro e w5 ⟨a1,c1,l1,g,c,f,cn,rfl,h9,h10,k1,k2,hb5⟩;have HB5:=aa (bt (HBW.out.trans (HB4.out.mono hw0)) hb5);have hk:=(fun o:Obj=>And.intro (kc ((Below.refl w5.heap.size w5).alloc (Nat.le_refl _) o) k1) (kc ((Below.refl w5.heap.size w5).alloc (Nat.le_refl _) o) k2));have hkB:=hk (.cells (nL (.slice a1 l1 c1) (.slice (some ⟨g,0,none⟩) (t+6) c) cn f) 35);unfold nL at hkB;rw[h9,h10] at hkB;obtain⟨m1,m2⟩:=hkB;unfold nL;clear hb5 k1 k2 hk)
   go_ret
   exact⟨rfl,HB5.out.alloc HB5.out.size _⟩
end Go.Proofs.YtdbailcdlngemaaGreatDoor

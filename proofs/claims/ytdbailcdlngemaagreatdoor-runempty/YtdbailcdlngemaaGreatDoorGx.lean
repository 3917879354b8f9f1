/- YtdbailcdlngemaaGreatDoorGx: of the texts Xb2 Xa1 Xa2 Xa3 Xa4 Xb1 Xb3 Xa5 Xc1 Xc2 Xc3 Xc4 Xc5 Xc6 Xc7 Xe1 Xe2 Xe3 what is wanted. -/
import Derived.Test.YtdbailcdlngemaaGreatDoorG0
import Derived.Test.YtdbailcdlngemaaGreatDoorGf
import Derived.ProofKit
import Derived.WalkKit
import Derived.RowKit3
import Derived.Test.YtdbailcdlngemaaGreatDoorGt
import Derived.Maps.AppendAt
import Derived.Test.YtdbailcdlngemaaGreatDoorGs
import Derived.Test.YtdbailcdlngemaaGreatDoorGd
import Derived.Laws.Tables
import Derived.Laws.Cells
import Derived.Deep.WholeRow
import Derived.Deep.MidRow
import Derived.Deep.Onto
import Derived.OpenShut
import Derived.WideShapes
import Derived.ChangeOld
import Derived.Deep.Strs
import Derived.Deep.Slices
import Derived.Laws.AppendOwn
import Derived.Deep.RegionHeld3
import Derived.Test.YtdbailcdlngemaaGreatDoorGl
import Derived.Test.YtdbailcdlngemaaGreatDoorGa
import Derived.Test.YtdbailcdlngemaaGreatDoorGp
import Derived.Test.YtdbailcdlngemaaGreatDoorGq
set_option maxHeartbeats 16000000
set_option maxRecDepth 100000
set_option linter.unusedVariables false
set_option linter.unusedSimpArgs false
namespace Go.Proofs.YtdbailcdlngemaaGreatDoor
open Go.RowKit
@[go_sem] theorem xS {P : Program} {w : World} {a : Addr} {m : Mode} (k : FloatKind) (x : Nat) : (store a (.float k x) m).run P w = stored P w a (.float k x) m := run_store P w a _ m rfl
theorem BG (w:World):Calls Tryz.prog 14 #[.int .u64 0,.int .u64 0] w fun e w'=> ∃r,e= .returned (.float .f64 r)∧ ¬Fl.nO r∧w'=w.drew:=by
 have h:floatBits .quo .f64 (floatOfInt .f64 0) (floatOfInt .f64 0)=none:=by kernel_rfl
 have hrun: ∀w,(binOp .quo 25 (.float .f64 (floatOfInt .f64 0)) (.float .f64 (floatOfInt .f64 0))).run Tryz.prog w= .ok (.float .f64 (Fl.jS w (floatOfInt .f64 0) (floatOfInt .f64 0))) w.drew:=fun w=>Fl.fK w 25 _ _ h
 clear h
 go_enter Tryz.func14,Tryz.ntmps14
 go_wp2
 go_ret
 exact⟨_,rfl,Fl.kR _ _ _,rfl⟩
end Go.Proofs.YtdbailcdlngemaaGreatDoor
namespace Go.Proofs.YtdbailcdlngemaaGreatDoor
open Go.RowKit Go.Lib Go.Shelf
attribute [local go_sem ↓] Go.wp_at_zero Go.wp_at_succ
structure RB (w:World) (b:Nat) (ev er:Value) (cn:Nat→Nat) (m:Nat) (pr:Int):Prop where
 c0:w.cell? ⟨b,0,none⟩=some ev
 c1:w.cell? ⟨b,1,none⟩=some er
 cn: ∀k,k<15→w.cell? ⟨b,2+k,none⟩=some (.int .i64 (cn k:Int))
 c17:w.cell? ⟨b,17,none⟩=some (.float .f64 0)
 c18:w.cell? ⟨b,18,none⟩=some (.pointer (some ⟨m,0,none⟩))
 c19:w.cell? ⟨b,19,none⟩=some (.int .i64 pr)
 c20:w.cell? ⟨b,20,none⟩=some (.int .u64 0)
 c21:w.cell? ⟨b,21,none⟩=some (.int .u64 0)
 fz: ∀o,w.frozen? ⟨b,o,none⟩=false
section
variable {w w':World} {b m:Nat} {ev er:Value} {cn:Nat→Nat} {pr:Int}
theorem RB.kept (h:RB w b ev er cn m pr) (hb:w'.heap[b]? =w.heap[b]?):RB w' b ev er cn m pr:=
 have e: ∀o,w'.cell? ⟨b,o,none⟩=w.cell? ⟨b,o,none⟩:=fun _=>World.cell?_of_block hb
 ⟨(e _).trans h.c0,(e _).trans h.c1,fun k hk=>(e _).trans (h.cn k hk),(e _).trans h.c17,(e _).trans h.c18,(e _).trans h.c19,(e _).trans h.c20,(e _).trans h.c21,fun o=>(World.frozen?_of_block hb).trans (h.fz o)⟩
theorem RB.lt (h:RB w b ev er cn m pr):b<w.heap.size:=World.block_lt_of_cell? w _ h.c0
theorem RB.DP (h:RB w b ev er cn m pr) (u:Value):RB (w.setCell ⟨b,0,none⟩ u) b u er cn m pr:=
 ⟨Gt.au _ _ _ _ h.c0,(aw w (by omega)).trans h.c1,fun k hk=>(aw w (by omega)).trans (h.cn k hk),(aw w (by omega)).trans h.c17,(aw w (by omega)).trans h.c18,(aw w (by omega)).trans h.c19,(aw w (by omega)).trans h.c20,(aw w (by omega)).trans h.c21,fun o=>by rw[aM];exact h.fz o⟩
theorem RB.FX (h:RB w b ev er cn m pr) (u:Value):RB (w.setCell ⟨b,1,none⟩ u) b ev u cn m pr:=
 ⟨(aw w (by omega)).trans h.c0,Gt.au _ _ _ _ h.c1,fun k hk=>(aw w (by omega)).trans (h.cn k hk),(aw w (by omega)).trans h.c17,(aw w (by omega)).trans h.c18,(aw w (by omega)).trans h.c19,(aw w (by omega)).trans h.c20,(aw w (by omega)).trans h.c21,fun o=>by rw[aM];exact h.fz o⟩
theorem RB.GB (h:RB w b ev er cn m pr) (i:Nat) (hi:i<15) (c:Nat):RB (w.setCell ⟨b,2+i,none⟩ (.int .i64 (c:Int))) b ev er (Gt.ax cn i c) m pr:=
 ⟨(aw w (by omega)).trans h.c0,(aw w (by omega)).trans h.c1,fun k hk=>(by
  by_cases e:k=i
  ·rw[e,Gt.aj];exact Gt.au _ _ _ _ (h.cn i hi)
  ·rw[Gt.ai _ _ _ _ e];exact(aw w (by omega)).trans (h.cn k hk)),(aw w (by omega)).trans h.c17,(aw w (by omega)).trans h.c18,(aw w (by omega)).trans h.c19,(aw w (by omega)).trans h.c20,(aw w (by omega)).trans h.c21,fun o=>by rw[aM];exact h.fz o⟩
end
def fG (cn:Nat→Nat) (l:List Ev) (k:Nat):Nat:=cn k+(l.filter (fun e=>e.k==(k:Int))).length
theorem gL.cells {w:World} {base:Nat} {v:Value} {l:List Ev} (h:gL w base v l): ∃a cap,v= .slice a l.length cap∧ ∀(j:Nat) (e:Ev),l[j]? =some e→ ∃g,a=some ⟨g,0,none⟩∧v.ownBlock=some g∧g<w.heap.size∧ ∀(i:Nat) (u:Value),(fC e)[i]? =some u→w.cell? ⟨g,j*6+i,none⟩=some u:=by
 rcases h with ⟨hl,⟨hv,hz⟩|⟨g,cap,cur,hv,h0,hg,hrow⟩⟩
 ·exact⟨none,0,by rw[hv,hz],fun j e he=>by have:=(List.getElem?_eq_some_iff.1 he).1;omega⟩
 ·refine⟨some ⟨g,0,none⟩,cap,hv,fun j e he=>⟨g,rfl,by rw[hv];rfl,(Array.getElem?_eq_some_iff.1 hg).1,fun i u hu=> ?_⟩⟩
  have hi:i<6:=(List.getElem?_eq_some_iff.1 hu).1
  have hc: ∀(l:List Ev) (j:Nat),l[j]? =some e→(bW l)[j*6+i]? =some u:=by
   intro l
   induction l with
   |nil=>intro j q;cases q
   |cons x l ih=>
    intro j q
    show(fC x++bW l)[j*6+i]? =some u
    cases j with
    |zero=>
     injection q with q
     rw[List.getElem?_append_left (by show 0*6+i<6;omega),q]
     simpa using hu
    |succ j=>
     rw[List.getElem?_append_right (by show 6≤(j+1)*6+i;omega),show(j+1)*6+i-(fC x).length=j*6+i by show(j+1)*6+i-6=_;omega]
     exact ih j q
  have:=hc l j he
  rw[←hrow.2.2.2,List.getElem?_take] at this
  split at this
  ·simp only[World.cell?,hg]
   simpa using this
  ·cases this
theorem qR (cn:Nat→Nat):fG cn []=cn:=by funext k;simp[fG]
theorem wS (cn:Nat→Nat) (l:List Ev) (e:Ev) (i:Nat) (hi:e.k=(i:Int)):fG cn (l++[e])=Gt.ax (fG cn l) i (fG cn l i+1):=by
 funext k
 by_cases q:k=i
 ·rw[q,Gt.aj]
  simp[fG,List.filter_append,hi]
  omega
 ·rw[Gt.ai _ _ _ _ q]
  have: ¬(i:Int)=(k:Int):=by omega
  simp[fG,List.filter_append,hi,this]
theorem uy (cn:Nat→Nat) (l:List Ev) (k:Nat):fG cn l k≤cn k+l.length:=by
 unfold fG
 have:=List.length_filter_le (fun e:Ev=>e.k==(k:Int)) l
 omega
theorem mg (l l':List Ev):bW (l++l')=bW l++bW l':=by simp[bW]
theorem ld: ∀l:List Ev,(bW l).length=l.length*6
 |[]=>rfl
 |x::l=>by
  show(fC x++bW l).length=(l.length+1)*6
  rw[List.length_append,ld l]
  show 6+_=_
  omega
section
variable {w w':World} {b m base base2:Nat} {ev er v:Value} {cn:Nat→Nat} {pr:Int} {evs l:List Ev}
theorem B8 (h:RB w b ev er cn m pr) (he:gL w base ev evs) (hl:gL w base2 v l) (hk: ∀e∈l,∃i:Nat,i<15∧e.k=(i:Int)) (hn1: ∀k,ev.ownBlock=some k→k≠b) (hn2: ∀k,v.ownBlock=some k→k≠b) (hlen:evs.length+l.length≤10000) (hcn: ∀k,k<15→cn k≤100000) (hbase:base≤w.heap.size):
  Calls Tryz.prog 39 #[.pointer (some ⟨b,0,none⟩),v] w fun e w'=>e= .returned (.tuple #[])∧ ∃ev',RB w' b ev' er (fG cn l) m pr∧gL w' base ev' (evs++l)∧Fr (fun k=>k=b∨ev.ownBlock=some k) w w'∧(ev'.ownBlock=ev.ownBlock∨ ∀k,ev'.ownBlock=some k→w.heap.size≤k):=by
 obtain⟨a,cap,rfl,hat⟩:=hl.cells
 obtain⟨ae,ce,rfl⟩:=Cb.aH he
 have HH:=aa h
 have HE:=aa he
 have HL:=aa hl
 have HAT:=aa hat
 have hbl:=h.lt
 obtain⟨len,hle⟩: ∃len,l.length=len:=⟨_,rfl⟩
 have HLE:=aa hle
 rw[hle] at hlen⊢
 clear h he hl hat hle
 go_enter Tryz.func39,Tryz.ntmps39
 go_wp2
 go_loopw [8] (fun iv wr=> ∃j:Nat,j≤len∧iv= .int .i64 (j:Int)∧RB wr b (.slice ae evs.length ce) er (fG cn (l.take j)) m pr∧Fr (fun k=>k=b) w wr) (fun iv _=>len-(RowKit.intOf iv).toNat)
 case atStart=>exact⟨0,Nat.zero_le _,rfl,by rw[List.take_zero,qR];exact HH.out,Fr.refl _ _⟩
 case round=>
  obtain⟨j,hj,rfl,hR,hF⟩:=hrel
  by_cases hjl:j<len
  ·have hjl':(j:Int)<(len:Int):=by omega
   obtain⟨x,hx⟩: ∃x,l[j]? =some x:=⟨l[j]'(by rw[HLE.out];exact hjl),List.getElem?_eq_getElem _⟩
   obtain⟨g,rfl,hgo,hgl,hc⟩:=HAT.out j x hx
   have hgb:g≠b:=hn2 g hgo
   obtain⟨i,hi,hki⟩:=hk x (List.mem_of_getElem? hx)
   have d0:wr.cell? ⟨g,j*6,none⟩=some (.int .i64 (i:Int)):=by rw[←hki];exact(hF.cellAt hgl hgb).trans (hc 0 _ rfl)
   have d1:=(hF.cellAt hgl hgb).trans (hc 1 _ rfl)
   have d2:=(hF.cellAt hgl hgb).trans (hc 2 _ rfl)
   have d3:=(hF.cellAt hgl hgb).trans (hc 3 _ rfl)
   have d4:=(hF.cellAt hgl hgb).trans (hc 4 _ rfl)
   have d5:=(hF.cellAt hgl hgb).trans (hc 5 _ rfl)
   have htk:l.take (j+1)=l.take j++[x]:=by rw[List.take_add_one,hx];rfl
   have hcs:=wS cn (l.take j) x i hki
   have hcl:=uy cn (l.take j) i
   have hll:(l.take j).length≤10000:=by rw[List.length_take];omega
   have hci:=hcn i hi
   obtain⟨C,hC⟩: ∃C,fG cn (l.take j)=C:=⟨_,rfl⟩
   rw[hC] at hR hcs hcl
   obtain⟨ci,hcie⟩: ∃ci,C i=ci:=⟨_,rfl⟩
   rw[hcie] at hcs hcl
   have e2:=hR.cn i hi
   rw[hcie] at e2
   have hR1:=hR.GB i hi (ci+1)
   have hA:Below (wr.setCell ⟨b,2+i,none⟩ (.int .i64 ((ci+1:Nat):Int))).heap.size (wr.setCell ⟨b,2+i,none⟩ (.int .i64 ((ci+1:Nat):Int))) (((wr.setCell ⟨b,2+i,none⟩ (.int .i64 ((ci+1:Nat):Int))).alloc (.cells #[.int .i64 (i:Int),.int .i64 x.p,.int .i64 x.x,.int .u32 (x.g:Int),.int .i64 x.r,.int .i64 x.e] 62)).drew):=((Below.refl _ _).alloc (Nat.le_refl _) _).drew
   have HR2:=aa (hR1.kept (hA.block b hR1.lt))
   have HF2:=aa ((hF.setCell (a:=⟨b,2+i,none⟩) rfl (.int .i64 ((ci+1:Nat):Int))).then (dh (S:=fun k=>k=b) hA) (fun k _ q=>q))
   have hwp:wrap64 ((ci:Int)+1)=((ci+1:Nat):Int):=by simp[wrap64,IntKind.wrap,IntKind.bits,IntKind.signed];omega
   have hbl2:b<wr.heap.size:=hR.lt
   have hfz:=hR.fz (2+i)
   have HCS:=aa hcs
   have HTK:=aa htk
   have hi1:(i:Int)<15:=by omega
   have hi2: ¬(i:Int)<0:=by omega
   clear hx hgo hc hki hk hR hF hR1 hA hcs htk hll hci hcl hC hcie
   go_wp2
   go_region
   go_wp2
   go_roundw
   case rel=>exact⟨j+1,by omega,by go_num,by rw[HTK.out,HCS.out];exact HR2.out,HF2.out⟩
   case measure=>simp[RowKit.intOf];omega
  ·have hjl': ¬(j:Int)<(len:Int):=by omega
   have ej:j=len:=by omega
   have htl:l.take j=l:=List.take_of_length_le (by rw[HLE.out];omega)
   rw[htl] at hR
   have c0:=hR.c0
   have hfz:=hR.fz 0
   have hEv:=aN HE.out (w':=wr) (fun k q=>hF.block k (Pi.aq HE.out q).2.1 (hn1 k q))
   have hbw:base≤wr.heap.size:=Nat.le_trans hbase hF.size
   have HR:=aa hR
   have HF:=aa hF
   have HEV:=aa hEv
   have hbl2:b<wr.heap.size:=hR.lt
   obtain⟨i0,hi0,hz0,hz1,hz2⟩:=Cb.info_parts zq
   have hLw:=aN HL.out (w':=wr) (fun k q=>hF.block k (Pi.aq HL.out q).2.1 (hn2 k q))
   have HLW:=aa hLw
   have hLen:=HLE.out
   rcases hLw.2 with ⟨hv,hz⟩|⟨g,cap',cur,hv,_,hgr,hrow⟩
   ·injection hv with q1 q2 q3
    subst q1
    have hl0:l=[]:=List.length_eq_zero_iff.1 (by omega)
    have hlen0:len=0:=by omega
    have hcap0:cap=0:=by omega
    subst hlen0 hcap0
    rw[ej]
    rw[ej] at hjl'
    clear hR hF hEv hk hLw hz q2 q3
    go_wp2_with (at_builtin;refine Wh.jN _ rfl _ _ 31 rfl base 62 i0 6 Tryz.underlying31 hi0 _ _ _ rfl HEV.out rfl ?_)
    go_end0
    rw[hl0] at HR
    exact⟨rfl,_,HR.out.DP _,aN HEV.out (fun k q=>Below.heap_setCell _ _ _ _ (hn1 k q)),(HF.out.setCell (a:=⟨b,0,none⟩) rfl _).to (fun k _ q=> .inl q),.inl rfl⟩
   ·injection hv with q1 q2 q3
    subst q1
    subst q3
    have hj1:(j:Int)=(len:Int):=by omega
    rw[ej]
    rw[ej] at hjl'
    clear hR hF hEv hk hLw hj1
    go_wp2_with (at_builtin;refine wpList_append_own_at _ rfl _ _ 31 rfl base 62 i0 (.agg #[.int .i64 0,.int .i64 0,.int .i64 0,.int .u32 0,.int .i64 0,.int .i64 0]) 6 48 Tryz.underlying31 hi0 hz0 hz1 hz2 rfl (by decide) _ _ _ rfl HEV.out ⟨g,0,none⟩ len _ (bW l) rfl (by rw[ld,HLE.out]) (HLW.out.cells rfl) (qU l) (by unfold maxLen;omega) (by omega) hbw ?_;intro v1 w8 ho1 hg1 _ hat1;obtain⟨a1,d1,rfl⟩:=Cb.aH ho1;have hb8:=hg1.block b hbl2 (fun e=>hn1 b e.symm rfl);have c8:w8.cell? ⟨b,0,none⟩=_:=(World.cell?_of_block hb8).trans c0;have f8:w8.frozen? ⟨b,0,none⟩=false:=(World.frozen?_of_block hb8).trans hfz;have HB8:=aa hb8;have HO1:=aa ho1;have HG1:Hid (wr.grownBy w8 (Value.slice ae evs.length ce).ownBlock):=hg1;have HAT1:Hid ((Value.slice a1 (evs.length+len) d1).ownBlock=(Value.slice ae evs.length ce).ownBlock∨(Value.slice a1 (evs.length+len) d1).ownBlock=some wr.heap.size):=hat1;clear ho1 hg1 hat1 hb8)
    go_end0
    have hR8:=(HR.out.kept HB8.out).DP (.slice a1 (evs.length+len) d1)
    have ho:=HO1.out
    rw[←mg] at ho
    have hnb: ∀k,(Value.slice a1 (evs.length+len) d1).ownBlock=some k→k≠b:=fun k q=>by
     rcases HAT1.out with o|o
     ·exact hn1 k (by rw[←o];exact q)
     ·rw[o] at q
      injection q with q
      omega
    refine⟨rfl,_,hR8,?_,?_,?_⟩
    ·unfold gL
     rw[List.length_append,HLE.out]
     exact aN ho (fun k q=>Below.heap_setCell _ _ _ _ (hnb k q))
    ·have hg8:Fr (fun k=>k=b∨(Value.slice ae evs.length ce).ownBlock=some k) wr w8:=⟨HG1.out.os,HG1.out.tape,HG1.out.output,HG1.out.size,fun k hk hn=>HG1.out.block k hk (fun e=>hn (.inr e.symm))⟩
     exact((HF.out.to (fun k _ q=> .inl q)).then hg8 (fun k _ q=>q)).setCell (a:=⟨b,0,none⟩) (.inl rfl) _
    ·rcases HAT1.out with o|o
     ·exact .inl o
     ·refine .inr (fun k q=> ?_)
      rw[o] at q
      injection q with q
      rw[←q]
      exact HF.out.size
end
end Go.Proofs.YtdbailcdlngemaaGreatDoor
namespace Go.Proofs.YtdbailcdlngemaaGreatDoor
open Go.RowKit Go.Lib Go.Shelf
def ED (w:World) (base:Nat) (v:Value) (l:List Int):Prop:=w.ownsRow base 36 1 v l.length (l.map (fun e=> .int .i64 e))
def KR (rb:Nat) (ev er:Value) (E:Nat→Prop) (k:Nat):Prop:=k=rb∨ev.ownBlock=some k∨er.ownBlock=some k∨E k
def RS (w V:World) (ad:Ad) (P n q T:Nat) (M:Mc) (rb:Nat) (evs:List Ev) (errs:List Int) (er:Value) (E:Nat→Prop):Prop:=
 ∃ev,pN w V ad P n q T M (KR rb ev er E)∧RB V rb ev er (fG (fun _=>0) evs) ad.m (P:Int)∧gL V (rb+1) ev evs∧ED V (rb+1) er errs∧(∀k,E k→k≠rb∧ev.ownBlock≠some k∧er.ownBlock≠some k)∧w.heap.size≤rb∧0<rb
theorem ED.lt {w:World} {base:Nat} {v:Value} {l:List Int} (h:ED w base v l) {k:Nat} (hk:v.ownBlock=some k):base≤k∧k<w.heap.size:=⟨(Pi.aq h hk).1,(Pi.aq h hk).2.1⟩
theorem gL.A9 {w:World} {base:Nat} {v:Value} {l:List Ev} (h:gL w base v l) {k:Nat} (hk:v.ownBlock=some k):base≤k∧k<w.heap.size:=⟨(Pi.aq h hk).1,(Pi.aq h hk).2.1⟩
section
variable {w V V':World} {ad:Ad} {P n q T T':Nat} {M M':Mc} {rb:Nat} {evs l:List Ev} {errs:List Int} {er:Value} {E E':Nat→Prop}
theorem RS.add (h:RS w V ad P n q T M rb evs errs er E) (hb:Below V.heap.size V V') (hE: ∀k,E' k→E k∨(V.heap.size≤k∧k<V'.heap.size)):RS w V' ad P n q T M rb evs errs er E':=by
 obtain⟨ev,hA,hR,hEv,hF,hs,h0⟩:=h
 have hl:=hR.lt
 refine⟨ev,hA.below hb (fun k q=> ?_),hR.kept (hb.block _ hl),hEv.below hb,aN hF (fun k hk=>hb.block k (hF.lt hk).2),fun k q=> ?_,h0⟩
 ·rcases q with q|q|q|q
  ·exact .inl (.inl q)
  ·exact .inl (.inr (.inl q))
  ·exact .inl (.inr (.inr (.inl q)))
  ·rcases hE k q with r|r
   ·exact .inl (.inr (.inr (.inr r)))
   ·exact .inr r
 ·rcases hE k q with r|r
  ·exact hs k r
  ·exact⟨by omega,fun e=>by have:=(hEv.A9 e).2;omega,fun e=>by have:=(hF.lt e).2;omega⟩
theorem RS.below (h:RS w V ad P n q T M rb evs errs er E) (hb:Below V.heap.size V V'):RS w V' ad P n q T M rb evs errs er E:=h.add hb (fun k q=> .inl q)
theorem RS.less (h:RS w V ad P n q T M rb evs errs er E) (hE: ∀k,E' k→E k):RS w V ad P n q T M rb evs errs er E':=h.add (Below.refl _ _) (fun k q=> .inl (hE k q))
theorem RS.eI (h:RS w V ad P n q T M rb evs errs er E):Below w.heap.size w V:=by
 obtain⟨ev,hA,_⟩:=h
 exact hA.eI
theorem RS.pq (h:RS w V ad P n q T M rb evs errs er E): ∃O,PQ V O ad.pb n P q T M.pl:=by
 obtain⟨ev,hA,_⟩:=h
 exact hA.pq
theorem RS.lt (h:RS w V ad P n q T M rb evs errs er E):rb<V.heap.size:=by
 obtain⟨ev,hA,hR,_⟩:=h
 exact hR.lt
theorem RS.Ba (h:RS w V ad P n q T M rb evs errs er E) {k:Nat} (hk:E k):k<V.heap.size:=by
 obtain⟨ev,⟨⟨lab,hi,h1,h2⟩,hb⟩,_⟩:=h
 exact(h2 k (.inr (.inr (.inr hk)))).2
theorem RS.mc (h:RS w V ad P n q T M rb evs errs er E):V.cell? ⟨rb,18,none⟩=some (.pointer (some ⟨ad.m,0,none⟩)):=by
 obtain⟨ev,hA,hR,_⟩:=h
 exact hR.c18
theorem RS.call (h:RS w V ad P n q T M rb evs errs er E) {f:Nat} {args:Array Value} {R:Ending→World→Value→Prop}
  (hc: ∀lab,aD V lab ad P n q T M→Calls Tryz.prog f args V fun e w'=> ∃v,R e w' v∧gL w' V.heap.size v l∧mP V w' lab ad P n q T' M' v):
  Calls Tryz.prog f args V fun e w'=> ∃v,R e w' v∧gL w' V.heap.size v l∧RS w w' ad P n q T' M' rb evs errs er E∧ ∀k,E k→w'.heap[k]? =V.heap[k]? :=by
 obtain⟨ev,hA,hR,hE,hF,hs⟩:=h
 refine(hA.call hc).mono ?_
 rintro e w' ⟨v,hr,hv,hA',hK⟩
 refine⟨v,hr,hv,⟨ev,hA'.below (Below.refl _ _) (fun k q=> .inl (.inl q)),hR.kept (hK _ (.inl rfl)),aN hE (fun k hk=>hK k (.inr (.inl hk))),aN hF (fun k hk=>hK k (.inr (.inr (.inl hk)))),hs⟩,fun k h1=>hK k (.inr (.inr (.inr h1)))⟩
theorem RS.Gr (h:RS w V ad P n q T M rb evs errs er E) {f:Nat} {args:Array Value} {R:Ending→World→Prop}
  (hc: ∀lab,aD V lab ad P n q T M→Calls Tryz.prog f args V fun e w'=>R e w'∧ay V w' lab ad P n q T' M'):
  Calls Tryz.prog f args V fun e w'=>R e w'∧RS w w' ad P n q T' M' rb evs errs er E∧ ∀k,E k→w'.heap[k]? =V.heap[k]? :=by
 obtain⟨ev,⟨⟨lab,hi,h1,h2⟩,hb⟩,hR,hE,hF,hs⟩:=h
 refine(hc lab hi).mono ?_
 rintro e w' ⟨hr,lab',hi',hl,hf⟩
 have hK: ∀k,KR rb ev er E k→w'.heap[k]? =V.heap[k]? :=fun k hk=>hf.block k (h2 k hk).2 (fun q=>q (h2 k hk).1)
 refine⟨hr,⟨ev,⟨⟨lab',hi',fun k hk=> ?_,fun k hk=>⟨(hl.old k (h2 k hk).2).trans (h2 k hk).1,Nat.lt_of_lt_of_le (h2 k hk).2 hf.size⟩⟩,hb.trans ⟨hf.os,hf.tape,hf.output,hf.size,fun k hk=>hf.block k (Nat.lt_of_lt_of_le hk hb.size) (fun q=>by have:=h1 k q;omega)⟩⟩,hR.kept (hK _ (.inl rfl)),aN hE (fun k hk=>hK k (.inr (.inl hk))),aN hF (fun k hk=>hK k (.inr (.inr (.inl hk)))),hs⟩,fun k h1=>hK k (.inr (.inr (.inr h1)))⟩
 rcases Nat.lt_or_ge k V.heap.size with q|q
 ·exact h1 k (by rw[←hl.old k q];exact hk)
 ·exact Nat.le_trans hb.size q
theorem pN.fr {K K' S:Nat→Prop} (h:pN w V ad P n q T M K) (hf:Fr S V V') (hS: ∀k,S k→K k) (h0: ¬S 0) (hw: ∀k,S k→w.heap.size≤k) (hk: ∀k,K' k→k<V'.heap.size∧(K k∨V.heap.size≤k)):pN w V' ad P n q T M K':=by
 obtain⟨⟨lab,hi,h1,h2⟩,hb⟩:=h
 refine⟨⟨lab,hi.frame hf (fun k hl hs=>hl (h2 k (hS k hs)).1) h0,h1,fun k q=> ?_⟩,hb.trans ⟨hf.os,hf.tape,hf.output,hf.size,fun k hk=>hf.block k (Nat.lt_of_lt_of_le hk hb.size) (fun q=>by have:=hw k q;omega)⟩⟩
 obtain⟨q1,q2|q2⟩:=hk k q
 ·exact⟨(h2 k q2).1,q1⟩
 ·exact⟨hi.fresh q2,q1⟩
theorem xm (cn:Nat→Nat) (l l':List Ev):fG (fG cn l) l'=fG cn (l++l'):=by
 funext k
 simp[fG,List.filter_append]
 omega
theorem RS.note (h:RS w V ad P n q T M rb evs errs er E) {base2:Nat} {v:Value} (hv:gL V base2 v l) (hb2:rb<base2) (hk: ∀e∈l,∃i:Nat,i<15∧e.k=(i:Int)) (hlen:evs.length+l.length≤10000):
  Calls Tryz.prog 39 #[.pointer (some ⟨rb,0,none⟩),v] V fun e w'=>e= .returned (.tuple #[])∧RS w w' ad P n q T M rb (evs++l) errs er E∧ ∀k,E k→w'.heap[k]? =V.heap[k]? :=by
 have ja: ∀k,E k→k<V.heap.size:=fun k q=>h.Ba q
 obtain⟨ev,hA,hR,hE,hF,hs,hw,h0⟩:=h
 have hle: ∀k,fG (fun _=>0) evs k≤100000:=fun k=>by have:=uy (fun _=>0) evs k;omega
 refine(B8 hR hE hv hk (fun k q=>by have:=(hE.A9 q).1;omega) (fun k q=>by have:=(hv.A9 q).1;omega) hlen (fun k _=>hle k) (by have:=hR.lt;omega)).mono ?_
 rintro e w' ⟨rfl,ev',hR',hE',hf,ho⟩
 rw[xm] at hR'
 have hne: ∀k,er.ownBlock=some k→k≠rb∧ev.ownBlock≠some k:=fun k q=>⟨by have:=(hF.lt q).1;omega,fun q2=>by
  obtain⟨c1,e1⟩:=(Pi.aq hF q).2.2
  obtain⟨c2,e2⟩:=(Pi.aq hE q2).2.2
  rw[e1] at e2
  injection e2 with e2
  injection e2 with _ e3
  exact absurd e3 (by decide)⟩
 refine⟨rfl,⟨ev',hA.fr hf (fun k q=> ?_) (fun q=> ?_) (fun k q=> ?_) (fun k q=> ?_),hR',hE',aN hF (fun k q=>hf.block k (hF.lt q).2 (fun q2=> ?_)),fun k q=>⟨(hs k q).1,fun e=> ?_,(hs k q).2.2⟩,hw,h0⟩,fun k h1=>hf.block k (ja k h1) (fun q=> ?_)⟩
 ·rcases q with q|q
  ·exact .inl q
  ·exact .inr (.inl q)
 ·rcases q with q|q
  ·omega
  ·have:=(hE.A9 q).1;omega
 ·rcases q with q|q
  ·omega
  ·have:=(hE.A9 q).1;omega
 ·rcases q with q|q|q|q
  ·exact⟨by rw[q];exact Nat.lt_of_lt_of_le hR.lt hf.size,.inl (.inl q)⟩
  ·refine⟨(hE'.A9 q).2,?_⟩
   rcases ho with o|o
   ·exact .inl (.inr (.inl (by rw[←o];exact q)))
   ·exact .inr (o k q)
  ·exact⟨Nat.lt_of_lt_of_le (hF.lt q).2 hf.size,.inl (.inr (.inr (.inl q)))⟩
  ·exact⟨Nat.lt_of_lt_of_le (ja k q) hf.size,.inl (.inr (.inr (.inr q)))⟩
 ·rcases q2 with q2|q2
  ·exact(hne k q).1 q2
  ·exact(hne k q).2 q2
 ·rcases ho with o|o
  ·exact(hs k q).2.1 (by rw[←o];exact e)
  ·have:=o k e
   have:=ja k q
   omega
 ·rcases q with q|q
  ·exact(hs k h1).1 q
  ·exact(hs k h1).2.1 q
end
attribute [local go_sem ↓] Go.wp_at_zero Go.wp_at_succ
section
variable {w V:World} {ad:Ad} {P n q T T':Nat} {M M':Mc} {rb:Nat} {evs l:List Ev} {errs:List Int} {er:Value} {E:Nat→Prop} {c:Int}
def DC (w:World) (ad:Ad) (P n q T':Nat) (M':Mc) (rb:Nat) (evs:List Ev) (errs:List Int) (er:Value) (E:Nat→Prop) (c:Int) (l:List Ev) (V:World) (e:Ending) (w':World):Prop:=
 ∃v,e= .returned (.tuple #[v,.int .i64 c])∧gL w' V.heap.size v l∧RS w w' ad P n q T' M' rb evs errs er E∧ ∀k,E k→w'.heap[k]? =V.heap[k]?
def Comes (w:World) (ad:Ad) (P n q T':Nat) (M':Mc) (rb:Nat) (evs:List Ev) (errs:List Int) (er:Value) (E:Nat→Prop) (c:Int) (V:World) (e:Ending) (w':World):Prop:=
 e= .returned (.int .i64 c)∧RS w w' ad P n q T' M' rb evs errs er E∧ ∀k,E k→w'.heap[k]? =V.heap[k]?
theorem RS.told (h:RS w V ad P n q T M rb evs errs er E) {V0:World} {E0:Nat→Prop} (hE: ∀k,E0 k→E k) (h0:rb<V0.heap.size) (hs: ∀k,E0 k→V.heap[k]? =V0.heap[k]?) {base2:Nat} {v:Value} (hv:gL V base2 v l) (hb2:V0.heap.size≤base2) (hk: ∀e∈l,∃i:Nat,i<15∧e.k=(i:Int)) (hlen:evs.length+l.length≤10000):
  Calls Tryz.prog 39 #[.pointer (some ⟨rb,0,none⟩),v] V fun e w'=>e= .returned (.tuple #[])∧RS w w' ad P n q T M rb (evs++l) errs er E0∧ ∀k,E0 k→w'.heap[k]? =V0.heap[k]? :=by
 refine(h.note hv (by omega) hk hlen).mono ?_
 rintro e w' ⟨rfl,hR,hK⟩
 exact⟨rfl,hR.less hE,fun k h1=>(hK k (hE k h1)).trans (hs k h1)⟩
theorem RS.CT (h:RS w V ad P n q T M rb evs errs er E) (p:Int) (dr:Nat) (nn:Int) (a:Option Addr) (len cap bu pe:Nat) (pg:Int) (lv:Nat) (sv:Int) (hk: ∀e∈l,∃i:Nat,i<15∧e.k=(i:Int)) (hlen:evs.length+l.length≤10000)
  (hc: ∀V' E',RS w V' ad P n q T M rb evs errs er E'→Calls Tryz.prog 34 #[.pointer (some ⟨ad.m,0,none⟩),.int .i64 p,.int .u64 (dr:Int)] V' (DC w ad P n q T' M' rb evs errs er E' c l V')):
  Calls Tryz.prog 20 #[.pointer (some ⟨rb,0,none⟩),.agg #[.int .i64 1,.int .i64 p,.int .u64 (dr:Int),.int .i64 nn,.slice a len cap,.int .u64 (bu:Int),.int .u64 (pe:Int),.int .i64 pg,.int .u8 (lv:Int),.int .i64 sv]] V (Comes w ad P n q T' M' rb (evs++l) errs er E c V):=by
 have hb0:Below V.heap.size V (V.alloc (.cells #[.int .i64 1,.int .i64 p,.int .u64 (dr:Int),.int .i64 nn,.slice a len cap,.int .u64 (bu:Int),.int .u64 (pe:Int),.int .i64 pg,.int .u8 (lv:Int),.int .i64 sv] 51)).drew:=((Below.refl _ _).alloc (Nat.le_refl _) _).drew
 have h1:=h.add hb0 (E':=fun k=>E k∨k=V.heap.size) (fun k q=>q.elim .inl (fun q=> .inr ⟨by omega,by rw[q];show V.heap.size<((V.alloc (.cells #[.int .i64 1,.int .i64 p,.int .u64 (dr:Int),.int .i64 nn,.slice a len cap,.int .u64 (bu:Int),.int .u64 (pe:Int),.int .i64 pg,.int .u8 (lv:Int),.int .i64 sv] 51)).heap.size);simp⟩))
 have c18:=h1.mc
 have k0:=kc (W:=(V.alloc (.cells #[.int .i64 1,.int .i64 p,.int .u64 (dr:Int),.int .i64 nn,.slice a len cap,.int .u64 (bu:Int),.int .u64 (pe:Int),.int .i64 pg,.int .u8 (lv:Int),.int .i64 sv] 51)).drew) (Below.refl _ _).drew (aV V #[.int .i64 1,.int .i64 p,.int .u64 (dr:Int),.int .i64 nn,.slice a len cap,.int .u64 (bu:Int),.int .u64 (pe:Int),.int .i64 pg,.int .u8 (lv:Int),.int .i64 sv] 51 0 _ rfl)
 have k1:=kc (W:=(V.alloc (.cells #[.int .i64 1,.int .i64 p,.int .u64 (dr:Int),.int .i64 nn,.slice a len cap,.int .u64 (bu:Int),.int .u64 (pe:Int),.int .i64 pg,.int .u8 (lv:Int),.int .i64 sv] 51)).drew) (Below.refl _ _).drew (aV V #[.int .i64 1,.int .i64 p,.int .u64 (dr:Int),.int .i64 nn,.slice a len cap,.int .u64 (bu:Int),.int .u64 (pe:Int),.int .i64 pg,.int .u8 (lv:Int),.int .i64 sv] 51 1 _ rfl)
 have k2:=kc (W:=(V.alloc (.cells #[.int .i64 1,.int .i64 p,.int .u64 (dr:Int),.int .i64 nn,.slice a len cap,.int .u64 (bu:Int),.int .u64 (pe:Int),.int .i64 pg,.int .u8 (lv:Int),.int .i64 sv] 51)).drew) (Below.refl _ _).drew (aV V #[.int .i64 1,.int .i64 p,.int .u64 (dr:Int),.int .i64 nn,.slice a len cap,.int .u64 (bu:Int),.int .u64 (pe:Int),.int .i64 pg,.int .u8 (lv:Int),.int .i64 sv] 51 2 _ rfl)
 have HC:=aa (hc _ _ h1)
 have hrb:rb<V.heap.size:=h.lt
 have HS0:=aa (fun k (q:E k)=>hb0.block k (h.Ba q))
 have HSZ:=aa hb0.size
 unfold Comes
 clear h h1 hb0 hc
 go_enter Tryz.func20,Tryz.ntmps20
 go_wp2
 go_region_held3 (fun w'=>w'.cell? ⟨rb,18,none⟩=some (.pointer (some ⟨ad.m,0,none⟩))∧w'.cell? ⟨V.heap.size,0,none⟩=some (.int .i64 1)∧w'.cell? ⟨V.heap.size,1,none⟩=some (.int .i64 p)∧w'.cell? ⟨V.heap.size,2,none⟩=some (.int .u64 (dr:Int))) (first|exact⟨c18,k0,k1,k2⟩|exact HM1.out|go_keep)
  (first
   |(go_at_call 34;refine(HC.out).mono ?_;rintro e w1 hT1;obtain⟨v1,rfl,hv1,hR1,hK1⟩:=hT1;have HV1:=aa hv1;have HR1:=aa hR1;have HK1:=aa hK1;have HM1:=aa ((And.intro hR1.mc (And.intro ((World.cell?_of_block (hK1 _ (.inr rfl))).trans k0) (And.intro ((World.cell?_of_block (hK1 _ (.inr rfl))).trans k1) ((World.cell?_of_block (hK1 _ (.inr rfl))).trans k2)))));clear hv1 hR1 hK1))
 go_wp2_with (go_at_call 39;refine(HR1.out.told (V0:=V) (E0:=E) (fun k q=> .inl q) hrb (fun k q=>(HK1.out k (.inl q)).trans (HS0.out k q)) HV1.out HSZ.out hk hlen).mono ?_;rintro e w2 ⟨rfl,hR2,hK2⟩;have HR2:=aa hR2;have HK2:=aa hK2;clear hR2 hK2)
 go_ret
 exact⟨rfl,HR2.out,HK2.out⟩
theorem RS.zF (h:RS w V ad P n q T M rb evs errs er E) (p:Int) (dr:Nat) (nn:Int) (a:Option Addr) (len cap bu pe:Nat) (pg:Int) (lv:Nat) (sv:Int) (hk: ∀e∈l,∃i:Nat,i<15∧e.k=(i:Int)) (hlen:evs.length+l.length≤10000)
  (hc: ∀V' E',RS w V' ad P n q T M rb evs errs er E'→Calls Tryz.prog 38 #[.pointer (some ⟨ad.m,0,none⟩),.int .i64 pg,.int .u8 (lv:Int),.int .i64 sv] V' (DC w ad P n q T' M' rb evs errs er E' c l V')):
  Calls Tryz.prog 20 #[.pointer (some ⟨rb,0,none⟩),.agg #[.int .i64 5,.int .i64 p,.int .u64 (dr:Int),.int .i64 nn,.slice a len cap,.int .u64 (bu:Int),.int .u64 (pe:Int),.int .i64 pg,.int .u8 (lv:Int),.int .i64 sv]] V (Comes w ad P n q T' M' rb (evs++l) errs er E c V):=by
 have hb0:Below V.heap.size V (V.alloc (.cells #[.int .i64 5,.int .i64 p,.int .u64 (dr:Int),.int .i64 nn,.slice a len cap,.int .u64 (bu:Int),.int .u64 (pe:Int),.int .i64 pg,.int .u8 (lv:Int),.int .i64 sv] 51)).drew:=((Below.refl _ _).alloc (Nat.le_refl _) _).drew
 have h1:=h.add hb0 (E':=fun k=>E k∨k=V.heap.size) (fun k q=>q.elim .inl (fun q=> .inr ⟨by omega,by rw[q];show V.heap.size<((V.alloc (.cells #[.int .i64 5,.int .i64 p,.int .u64 (dr:Int),.int .i64 nn,.slice a len cap,.int .u64 (bu:Int),.int .u64 (pe:Int),.int .i64 pg,.int .u8 (lv:Int),.int .i64 sv] 51)).heap.size);simp⟩))
 have c18:=h1.mc
 have k0:=kc (W:=(V.alloc (.cells #[.int .i64 5,.int .i64 p,.int .u64 (dr:Int),.int .i64 nn,.slice a len cap,.int .u64 (bu:Int),.int .u64 (pe:Int),.int .i64 pg,.int .u8 (lv:Int),.int .i64 sv] 51)).drew) (Below.refl _ _).drew (aV V #[.int .i64 5,.int .i64 p,.int .u64 (dr:Int),.int .i64 nn,.slice a len cap,.int .u64 (bu:Int),.int .u64 (pe:Int),.int .i64 pg,.int .u8 (lv:Int),.int .i64 sv] 51 0 _ rfl)
 have k7:=kc (W:=(V.alloc (.cells #[.int .i64 5,.int .i64 p,.int .u64 (dr:Int),.int .i64 nn,.slice a len cap,.int .u64 (bu:Int),.int .u64 (pe:Int),.int .i64 pg,.int .u8 (lv:Int),.int .i64 sv] 51)).drew) (Below.refl _ _).drew (aV V #[.int .i64 5,.int .i64 p,.int .u64 (dr:Int),.int .i64 nn,.slice a len cap,.int .u64 (bu:Int),.int .u64 (pe:Int),.int .i64 pg,.int .u8 (lv:Int),.int .i64 sv] 51 7 _ rfl)
 have k8:=kc (W:=(V.alloc (.cells #[.int .i64 5,.int .i64 p,.int .u64 (dr:Int),.int .i64 nn,.slice a len cap,.int .u64 (bu:Int),.int .u64 (pe:Int),.int .i64 pg,.int .u8 (lv:Int),.int .i64 sv] 51)).drew) (Below.refl _ _).drew (aV V #[.int .i64 5,.int .i64 p,.int .u64 (dr:Int),.int .i64 nn,.slice a len cap,.int .u64 (bu:Int),.int .u64 (pe:Int),.int .i64 pg,.int .u8 (lv:Int),.int .i64 sv] 51 8 _ rfl)
 have k9:=kc (W:=(V.alloc (.cells #[.int .i64 5,.int .i64 p,.int .u64 (dr:Int),.int .i64 nn,.slice a len cap,.int .u64 (bu:Int),.int .u64 (pe:Int),.int .i64 pg,.int .u8 (lv:Int),.int .i64 sv] 51)).drew) (Below.refl _ _).drew (aV V #[.int .i64 5,.int .i64 p,.int .u64 (dr:Int),.int .i64 nn,.slice a len cap,.int .u64 (bu:Int),.int .u64 (pe:Int),.int .i64 pg,.int .u8 (lv:Int),.int .i64 sv] 51 9 _ rfl)
 have HC:=aa (hc _ _ h1)
 have hrb:rb<V.heap.size:=h.lt
 have HS0:=aa (fun k (q:E k)=>hb0.block k (h.Ba q))
 have HSZ:=aa hb0.size
 unfold Comes
 clear h h1 hb0 hc
 go_enter Tryz.func20,Tryz.ntmps20
 go_wp2
 go_region_held3 (fun w'=>w'.cell? ⟨rb,18,none⟩=some (.pointer (some ⟨ad.m,0,none⟩))∧w'.cell? ⟨V.heap.size,0,none⟩=some (.int .i64 5)∧w'.cell? ⟨V.heap.size,7,none⟩=some (.int .i64 pg)∧w'.cell? ⟨V.heap.size,8,none⟩=some (.int .u8 (lv:Int))∧w'.cell? ⟨V.heap.size,9,none⟩=some (.int .i64 sv)) (first|exact⟨c18,k0,k7,k8,k9⟩|exact HM1.out|go_keep)
  (first
   |(go_at_call 38;refine(HC.out).mono ?_;rintro e w1 hT1;obtain⟨v1,rfl,hv1,hR1,hK1⟩:=hT1;have HV1:=aa hv1;have HR1:=aa hR1;have HK1:=aa hK1;have HM1:=aa ((And.intro hR1.mc (And.intro ((World.cell?_of_block (hK1 _ (.inr rfl))).trans k0) (And.intro ((World.cell?_of_block (hK1 _ (.inr rfl))).trans k7) (And.intro ((World.cell?_of_block (hK1 _ (.inr rfl))).trans k8) ((World.cell?_of_block (hK1 _ (.inr rfl))).trans k9))))));clear hv1 hR1 hK1))
 go_wp2_with (go_at_call 39;refine(HR1.out.told (V0:=V) (E0:=E) (fun k q=> .inl q) hrb (fun k q=>(HK1.out k (.inl q)).trans (HS0.out k q)) HV1.out HSZ.out hk hlen).mono ?_;rintro e w2 ⟨rfl,hR2,hK2⟩;have HR2:=aa hR2;have HK2:=aa hK2;clear hR2 hK2)
 go_ret
 exact⟨rfl,HR2.out,HK2.out⟩
theorem RS.Be (h:RS w V ad P n q T M rb evs errs er E) (p:Int) (dr:Nat) (nn:Int) (a:Option Addr) (len cap bu pe:Nat) (pg:Int) (lv:Nat) (sv:Int) (hlen:evs.length≤10000) (O R:Nat→Int) (hp:Ex.nJ V a len O R) (hr:Ex.Rt len O R) (hf:M.pr.length<16):
  Calls Tryz.prog 20 #[.pointer (some ⟨rb,0,none⟩),.agg #[.int .i64 3,.int .i64 p,.int .u64 (dr:Int),.int .i64 nn,.slice a len cap,.int .u64 (bu:Int),.int .u64 (pe:Int),.int .i64 pg,.int .u8 (lv:Int),.int .i64 sv]] V (Comes w ad P n q T {M with pr:=M.pr++[⟨len,O,R⟩]} rb evs errs er E 0 V):=by
 have hb0:Below V.heap.size V (V.alloc (.cells #[.int .i64 3,.int .i64 p,.int .u64 (dr:Int),.int .i64 nn,.slice a len cap,.int .u64 (bu:Int),.int .u64 (pe:Int),.int .i64 pg,.int .u8 (lv:Int),.int .i64 sv] 51)).drew:=((Below.refl _ _).alloc (Nat.le_refl _) _).drew
 have h1:=h.add hb0 (E':=fun k=>E k∨k=V.heap.size) (fun k q=>q.elim .inl (fun q=> .inr ⟨by omega,by rw[q];show V.heap.size<((V.alloc (.cells #[.int .i64 3,.int .i64 p,.int .u64 (dr:Int),.int .i64 nn,.slice a len cap,.int .u64 (bu:Int),.int .u64 (pe:Int),.int .i64 pg,.int .u8 (lv:Int),.int .i64 sv] 51)).heap.size);simp⟩))
 have c18:=h1.mc
 have k0:=kc (W:=(V.alloc (.cells #[.int .i64 3,.int .i64 p,.int .u64 (dr:Int),.int .i64 nn,.slice a len cap,.int .u64 (bu:Int),.int .u64 (pe:Int),.int .i64 pg,.int .u8 (lv:Int),.int .i64 sv] 51)).drew) (Below.refl _ _).drew (aV V #[.int .i64 3,.int .i64 p,.int .u64 (dr:Int),.int .i64 nn,.slice a len cap,.int .u64 (bu:Int),.int .u64 (pe:Int),.int .i64 pg,.int .u8 (lv:Int),.int .i64 sv] 51 0 _ rfl)
 have k4:=kc (W:=(V.alloc (.cells #[.int .i64 3,.int .i64 p,.int .u64 (dr:Int),.int .i64 nn,.slice a len cap,.int .u64 (bu:Int),.int .u64 (pe:Int),.int .i64 pg,.int .u8 (lv:Int),.int .i64 sv] 51)).drew) (Below.refl _ _).drew (aV V #[.int .i64 3,.int .i64 p,.int .u64 (dr:Int),.int .i64 nn,.slice a len cap,.int .u64 (bu:Int),.int .u64 (pe:Int),.int .i64 pg,.int .u8 (lv:Int),.int .i64 sv] 51 4 _ rfl)
 have HC:=aa (h1.Gr (R:=fun e w'=>e= .returned (.tuple #[.int .i64 (M.pr.length:Int),.int .i64 0])) (fun lab hi=>hi.zh a len cap O R (hp.below hb0) hr hf))
 have hrb:rb<V.heap.size:=h.lt
 have HS0:=aa (fun k (q:E k)=>hb0.block k (h.Ba q))
 have HSZ:=aa hb0.size
 unfold Comes
 clear h h1 hb0
 go_enter Tryz.func20,Tryz.ntmps20
 go_wp2
 go_region_held3 (fun w'=>w'.cell? ⟨rb,18,none⟩=some (.pointer (some ⟨ad.m,0,none⟩))∧w'.cell? ⟨V.heap.size,0,none⟩=some (.int .i64 3)∧w'.cell? ⟨V.heap.size,4,none⟩=some (.slice a len cap)) (first|exact⟨c18,k0,k4⟩|exact HM1.out|go_keep)
  (first
   |(go_at_call 36;refine(HC.out).mono ?_;rintro e w1 hT1;obtain⟨rfl,hR1,hK1⟩:=hT1;have HR1:=aa hR1;have HK1:=aa hK1;have HM1:=aa ((And.intro hR1.mc (And.intro ((World.cell?_of_block (hK1 _ (.inr rfl))).trans k0) ((World.cell?_of_block (hK1 _ (.inr rfl))).trans k4))));clear hR1 hK1))
 go_wp2_with (go_at_call 39;refine(HR1.out.told (V0:=V) (E0:=E) (l:=[]) (fun k q=> .inl q) hrb (fun k q=>(HK1.out k (.inl q)).trans (HS0.out k q)) (gL.nil _ _) (Nat.le_refl _) (fun e q=>by cases q) (by simpa using hlen)).mono ?_;rintro e w2 ⟨rfl,hR2,hK2⟩;rw[List.append_nil] at hR2;have HR2:=aa hR2;have HK2:=aa hK2;clear hR2 hK2)
 go_ret
 exact⟨rfl,HR2.out,HK2.out⟩
end
def Gn (x:Ex.En) (a:Option Addr) (cap:Nat):Value:= .agg #[.int .i64 x.d,.int .i64 x.p,.int .u64 (x.dr:Int),.int .i64 x.n,.slice a x.code.length cap,.int .u64 (x.bu:Int),.int .u64 (x.pe:Int),.int .i64 x.pr,.int .u8 (x.lv:Int),.int .i64 x.sv]
structure GR (w:World) (v:Value) (L:List Ex.En) (E:Nat→Prop):Prop where
 len: ∃a cap,v= .slice a L.length cap
 at_: ∀(j:Nat) (x:Ex.En),L[j]? =some x→ ∃g a cap,(∃c,v= .slice (some ⟨g,0,none⟩) L.length c)∧E g∧(∀(i:Nat) (u:Value),(Ex.ec x a cap)[i]? =some u→w.cell? ⟨g,j*10+i,none⟩=some u)∧ ∀V:World,(∀k,E k→V.heap[k]? =w.heap[k]?)→(∀k,E k→k<V.heap.size)→Ex.nJ V a x.code.length (Ex.cO x.code) (Ex.cR x.code)
theorem GR.of {w:World} {base:Nat} {v:Value} {Z:Ex.Zs} (h:Ex.Rw w base 51 v Z):GR w v (Z.map (·.1)) (fun k=>base≤k∧k<w.heap.size):=by
 obtain⟨a,cap,hv,_⟩:=h.ID
 refine⟨⟨a,cap,by rw[hv,List.length_map]⟩,fun j x hx=> ?_⟩
 rw[List.getElem?_map] at hx
 cases hz:Z[j]? with
 |none=>rw[hz] at hx;cases hx
 |some z=>
  rw[hz] at hx
  injection hx with hx
  obtain⟨hl,⟨hv0,h0⟩|⟨g,cap',cur,hvg,hb,hg,hrow⟩⟩:=h.row
  ·have:=(List.getElem?_eq_some_iff.1 hz).1
   omega
  ·refine⟨g,z.2.1,z.2.2,⟨cap',by rw[hvg,List.length_map]⟩,⟨hb,(Array.getElem?_eq_some_iff.1 hg).1⟩,fun i u hu=> ?_,fun V hV hl=> ?_⟩
   ·rw[←hx] at hu
    have:=Ex.kj Z j z hz i u hu
    rw[←hrow.2.2.2,List.getElem?_take] at this
    split at this
    ·simp only[World.cell?,hg]
     simpa using this
    ·cases this
   ·obtain⟨hc,_⟩:=h.qP z (List.mem_of_getElem? hz)
    rw[←hx]
    have hc':Ex.dH V base (.slice z.2.1 z.1.code.length z.2.2) z.1.code:=aN hc (fun k q=>hV k ⟨(Pi.aq hc q).1,(Pi.aq hc q).2.1⟩)
    obtain⟨a',cap'',e1,hp⟩:=Ex.jy hc'
    injection e1 with e1
    rw[e1]
    exact hp
end Go.Proofs.YtdbailcdlngemaaGreatDoor
namespace Go.Proofs.YtdbailcdlngemaaGreatDoor
open Go.RowKit Go.Lib Go.Shelf
section
variable {w V W W':World} {ad:Ad} {P n q T:Nat} {M:Mc} {rb:Nat} {evs:List Ev} {errs:List Int} {er v':Value} {E:Nat→Prop} {c:Int}
theorem RS.DE (h:RS w V ad P n q T M rb evs errs er E):ED V (rb+1) er errs∧V.cell? ⟨rb,1,none⟩=some er∧V.frozen? ⟨rb,1,none⟩=false:=by
 obtain⟨ev,hA,hR,hE,hF,_⟩:=h
 exact⟨hF,hR.c1,hR.fz 1⟩
theorem RS.err (h:RS w V ad P n q T M rb evs errs er E) (ho:W'.ownsRow (rb+1) 36 1 v' (errs.length+1) (errs.map (fun e=> .int .i64 e)++[.int .i64 c])) (hg:V.grownBy W' er.ownBlock) (hat:v'.ownBlock=er.ownBlock∨v'.ownBlock=some V.heap.size):
  W'.cell? ⟨rb,1,none⟩=some er∧W'.frozen? ⟨rb,1,none⟩=false∧RS w (W'.setCell ⟨rb,1,none⟩ v') ad P n q T M rb evs (errs++[c]) v' E∧ ∀k,E k→(W'.setCell ⟨rb,1,none⟩ v').heap[k]? =V.heap[k]? :=by
 have ja: ∀k,E k→k<V.heap.size:=fun k q=>h.Ba q
 obtain⟨ev,hA,hR,hE,hF,hs,hw,h0⟩:=h
 have hne: ∀k,er.ownBlock=some k→k≠rb∧ev.ownBlock≠some k:=fun k q=>⟨by have:=(hF.lt q).1;omega,fun q2=>by
  obtain⟨c1,e1⟩:=(Pi.aq hF q).2.2
  obtain⟨c2,e2⟩:=(Pi.aq hE q2).2.2
  rw[e1] at e2
  injection e2 with e2
  injection e2 with _ e3
  exact absurd e3 (by decide)⟩
 have hb:W'.heap[rb]? =V.heap[rb]? :=hg.block rb hR.lt (fun e=>(hne rb e.symm).1 rfl)
 have hR':=(hR.kept hb).FX v'
 have hf:Fr (fun k=>k=rb∨er.ownBlock=some k) V (W'.setCell ⟨rb,1,none⟩ v'):=Fr.setCell (S:=fun k=>k=rb∨er.ownBlock=some k) ⟨hg.os,hg.tape,hg.output,hg.size,fun k hk hn=>hg.block k hk (fun e=>hn (.inr e.symm))⟩ (a:=⟨rb,1,none⟩) (.inl rfl) v'
 have hv': ∀k,v'.ownBlock=some k→k≠rb∧(er.ownBlock=some k∨V.heap.size≤k):=fun k q=>by
  rcases hat with o|o
  ·rw[o] at q;exact⟨(hne k q).1,.inl q⟩
  ·rw[o] at q
   injection q with q
   have:=hR.lt
   exact⟨by omega,.inr (by omega)⟩
 have hF':ED (W'.setCell ⟨rb,1,none⟩ v') (rb+1) v' (errs++[c]):=by
  unfold ED
  rw[List.length_append,List.map_append]
  exact aN ho (fun k q=>Below.heap_setCell _ _ _ _ (hv' k q).1)
 refine⟨(World.cell?_of_block hb).trans hR.c1,(World.frozen?_of_block hb).trans (hR.fz 1),⟨ev,hA.fr hf (fun k q=> ?_) (fun q=> ?_) (fun k q=> ?_) (fun k q=> ?_),hR',aN hE (fun k q=>hf.block k (hE.A9 q).2 (fun q2=> ?_)),hF',fun k q=>⟨(hs k q).1,(hs k q).2.1,fun e=> ?_⟩,hw,h0⟩,fun k q=>hf.block k (ja k q) (fun q2=> ?_)⟩
 ·rcases q with q|q
  ·exact .inl q
  ·exact .inr (.inr (.inl q))
 ·rcases q with q|q
  ·omega
  ·have:=(hF.lt q).1;omega
 ·rcases q with q|q
  ·omega
  ·have:=(hF.lt q).1;omega
 ·rcases q with q|q|q|q
  ·exact⟨by rw[q];exact Nat.lt_of_lt_of_le hR.lt hf.size,.inl (.inl q)⟩
  ·exact⟨Nat.lt_of_lt_of_le (hE.A9 q).2 hf.size,.inl (.inr (.inl q))⟩
  ·refine⟨(hF'.lt q).2,?_⟩
   rcases(hv' k q).2 with o|o
   ·exact .inl (.inr (.inr (.inl o)))
   ·exact .inr o
  ·exact⟨Nat.lt_of_lt_of_le (ja k q) hf.size,.inl (.inr (.inr (.inr q)))⟩
 ·rcases q2 with q2|q2
  ·have:=(hE.A9 q).1;omega
  ·exact(hne k q2).2 q
 ·rcases(hv' k e).2 with o|o
  ·exact(hs k q).2.2 o
  ·have:=ja k q;omega
 ·rcases q2 with q2|q2
  ·exact(hs k q).1 q2
  ·exact(hs k q).2.2 q2
end
def gM (ev er:Value) (cn:Nat→Nat) (f:Nat):Array Value:= #[ev,er,.int .i64 (cn 0:Int),.int .i64 (cn 1:Int),.int .i64 (cn 2:Int),.int .i64 (cn 3:Int),.int .i64 (cn 4:Int),.int .i64 (cn 5:Int),.int .i64 (cn 6:Int),.int .i64 (cn 7:Int),.int .i64 (cn 8:Int),.int .i64 (cn 9:Int),.int .i64 (cn 10:Int),.int .i64 (cn 11:Int),.int .i64 (cn 12:Int),.int .i64 (cn 13:Int),.int .i64 (cn 14:Int),.float .f64 f]
theorem RB.row {w:World} {b m:Nat} {ev er:Value} {cn:Nat→Nat} {pr:Int} (h:RB w b ev er cn m pr) (f:Nat): ∀(j:Nat) (v:Value),(gM ev er cn f)[j]? =some v→(w.setCell ⟨b,17,none⟩ (.float .f64 f)).cell? ⟨b,j,none⟩=some v:=fun j v hv=>by
 have hj:j<18:=(Array.getElem?_eq_some_iff.1 hv).1
 have fin: ∀u,(gM ev er cn f)[j]? =some u→(w.setCell ⟨b,17,none⟩ (.float .f64 f)).cell? ⟨b,j,none⟩=some u→(w.setCell ⟨b,17,none⟩ (.float .f64 f)).cell? ⟨b,j,none⟩=some v:=fun u h1 h2=>by
  rw[hv] at h1
  rw[h2,←h1]
 match j,hj with
 |0,_=>exact fin _ rfl ((aw w (by omega)).trans h.c0)
 |1,_=>exact fin _ rfl ((aw w (by omega)).trans h.c1)
 |17,_=>exact fin _ rfl (Gt.au _ _ _ _ h.c17)
 |2,_=>exact fin _ rfl ((aw w (by omega)).trans (h.cn 0 (by decide)))
 |3,_=>exact fin _ rfl ((aw w (by omega)).trans (h.cn 1 (by decide)))
 |4,_=>exact fin _ rfl ((aw w (by omega)).trans (h.cn 2 (by decide)))
 |5,_=>exact fin _ rfl ((aw w (by omega)).trans (h.cn 3 (by decide)))
 |6,_=>exact fin _ rfl ((aw w (by omega)).trans (h.cn 4 (by decide)))
 |7,_=>exact fin _ rfl ((aw w (by omega)).trans (h.cn 5 (by decide)))
 |8,_=>exact fin _ rfl ((aw w (by omega)).trans (h.cn 6 (by decide)))
 |9,_=>exact fin _ rfl ((aw w (by omega)).trans (h.cn 7 (by decide)))
 |10,_=>exact fin _ rfl ((aw w (by omega)).trans (h.cn 8 (by decide)))
 |11,_=>exact fin _ rfl ((aw w (by omega)).trans (h.cn 9 (by decide)))
 |12,_=>exact fin _ rfl ((aw w (by omega)).trans (h.cn 10 (by decide)))
 |13,_=>exact fin _ rfl ((aw w (by omega)).trans (h.cn 11 (by decide)))
 |14,_=>exact fin _ rfl ((aw w (by omega)).trans (h.cn 12 (by decide)))
 |15,_=>exact fin _ rfl ((aw w (by omega)).trans (h.cn 13 (by decide)))
 |16,_=>exact fin _ rfl ((aw w (by omega)).trans (h.cn 14 (by decide)))
attribute [local go_sem ↓] Go.wp_at_zero Go.wp_at_succ
def cC:Array Value:= #[.slice none 0 0,.slice none 0 0,.int .i64 0,.int .i64 0,.int .i64 0,.int .i64 0,.int .i64 0,.int .i64 0,.int .i64 0,.int .i64 0,.int .i64 0,.int .i64 0,.int .i64 0,.int .i64 0,.int .i64 0,.int .i64 0,.int .i64 0,.float .f64 0]
def CV:Array Value:= #[.slice none 0 0,.slice none 0 0,.int .i64 0,.int .i64 0,.int .i64 0,.int .i64 0,.int .i64 0,.int .i64 0,.int .i64 0,.int .i64 0,.int .i64 0,.int .i64 0,.int .i64 0,.int .i64 0,.int .i64 0,.int .i64 0,.int .i64 0,.float .f64 0,.pointer none,.int .i64 0,.int .u64 0,.int .u64 0]
theorem Fw (w:World):(zeroValue 73).run Tryz.prog w= .ok (.agg CV) w:=by kernel_rfl
def Bd (m:Nat) (p:Int):Array Value:= #[.slice none 0 0,.slice none 0 0,.int .i64 0,.int .i64 0,.int .i64 0,.int .i64 0,.int .i64 0,.int .i64 0,.int .i64 0,.int .i64 0,.int .i64 0,.int .i64 0,.int .i64 0,.int .i64 0,.int .i64 0,.int .i64 0,.int .i64 0,.float .f64 0,.pointer (some ⟨m,0,none⟩),.int .i64 p,.int .u64 0,.int .u64 0]
theorem C8 (W:World) (m:Nat) (p:Int):(storeCells ⟨W.heap.size,0,none⟩ ((CV.toList.set 18 (.pointer (some ⟨m,0,none⟩))).set 19 (.int .i64 p))).run Tryz.prog (W.alloc (.cells CV 73))= .ok () (W.alloc (.cells (Bd m p) 73)):=
 run_storeCells_new W 73 CV (Bd m p) (by kernel_rfl) rfl (by simp[Bd,Value.oneCell'])
theorem Em (W:World) (m:Nat) (p:Int):RB (W.alloc (.cells (Bd m p) 73)) W.heap.size (.slice none 0 0) (.slice none 0 0) (fun _=>0) m p:=by
 have k:=fun i u (h:(Bd m p)[i]? =some u)=>aV W (Bd m p) 73 i u h
 refine⟨k 0 _ rfl,k 1 _ rfl,fun i hi=> ?_,k 17 _ rfl,k 18 _ rfl,k 19 _ rfl,k 20 _ rfl,k 21 _ rfl,fun o=> ?_⟩
 ·match i,hi with
  |0,_=>exact k 2 _ rfl
  |1,_=>exact k 3 _ rfl
  |2,_=>exact k 4 _ rfl
  |3,_=>exact k 5 _ rfl
  |4,_=>exact k 6 _ rfl
  |5,_=>exact k 7 _ rfl
  |6,_=>exact k 8 _ rfl
  |7,_=>exact k 9 _ rfl
  |8,_=>exact k 10 _ rfl
  |9,_=>exact k 11 _ rfl
  |10,_=>exact k 12 _ rfl
  |11,_=>exact k 13 _ rfl
  |12,_=>exact k 14 _ rfl
  |13,_=>exact k 15 _ rfl
  |14,_=>exact k 16 _ rfl
 ·exact World.frozen?_alloc_new _ _ _ _
theorem Cp:(Tryz.prog.info? 36).map (fun i=>(i.zero,i.size,i.bytes))=some (some (.int .i64 0),1,8):=by kernel_rfl
theorem rR {w:World} {base base':Nat} {e:TypeId} {size:Nat} {v:Value} {n:Nat} {xs:List Value} (h:w.ownsRow base e size v n xs) (hb:base'≤base):w.ownsRow base' e size v n xs:=by
 obtain⟨h1,h2|⟨g,cap,cells,hv,h3,h4⟩⟩:=h
 ·exact⟨h1,.inl h2⟩
 ·exact⟨h1,.inr ⟨g,cap,cells,hv,Nat.le_trans hb h3,h4⟩⟩
def Steps (w:World) (P n q:Nat) (L:List Ex.En) (J:Nat→Nat→Mc→List Ev→List Int→Prop):Prop:=
 ∀(j:Nat) (x:Ex.En),L[j]? =some x→ ∀V ad T M rb evs errs er E a cap,J j T M evs errs→RS w V ad P n q T M rb evs errs er E→Ex.nJ V a x.code.length (Ex.cO x.code) (Ex.cR x.code)→
  Calls Tryz.prog 20 #[.pointer (some ⟨rb,0,none⟩),Gn x a cap] V (fun e w'=> ∃T' M' evs' c,Comes w ad P n q T' M' rb evs' errs er E c V e w'∧J (j+1) T' M' evs' (errs++[c]))
theorem yU (P n q m qu ag:Nat) (hP:1≤P∧P≤64) (hn:1≤n∧n≤1024) (hq:1≤q∧q≤256) (hm:m≤32) (hqu:1≤qu∧qu<18446744073709551616) (hag:1≤ag∧ag<18446744073709551616) (w:World) (ht:Gt.ju w) (bv:Value) (L:List Ex.En) (hL:L.length≤1000)
  (hdec: ∀V,Below w.heap.size w V→Calls Tryz.prog 19 #[bv] V (Ex.GH V 51 L)) (J:Nat→Nat→Mc→List Ev→List Int→Prop) (hJ0:J 0 0 (dP P n m qu ag) [] []) (hst:Steps w P n q L J):
  Calls Tryz.prog 10 #[.agg #[.int .i64 (P:Int),.int .i64 (n:Int),.int .i64 (q:Int),.int .i64 (m:Int),.int .u64 (qu:Int),.int .u64 (ag:Int)],bv] w fun e w'=> ∃ev er f T M evs errs,J L.length T M evs errs∧e= .returned (.tuple #[.agg (gM ev er (fG (fun _=>0) evs) f),.int .i64 0])∧ ¬Fl.nO f∧gL w' w.heap.size ev evs∧ED w' w.heap.size er errs∧Below w.heap.size w w':=by
 obtain⟨W0,hW0⟩: ∃W0,(w.alloc (.cells #[.int .i64 (P:Int),.int .i64 (n:Int),.int .i64 (q:Int),.int .i64 (m:Int),.int .u64 (qu:Int),.int .u64 (ag:Int)] 41)).alloc (.cells cC 35)=W0:=⟨_,rfl⟩
 have hb0:Below w.heap.size w W0:=by rw[←hW0];exact((Below.refl _ _).alloc (Nat.le_refl _) _).alloc (by simp) _
 have hz0:W0.heap.size=w.heap.size+2:=by rw[←hW0];simp
 have k0:W0.cell? ⟨w.heap.size,0,none⟩=some (.int .i64 (P:Int)):=by
  rw[←hW0]
  exact kc (W0:=w.alloc (.cells #[.int .i64 (P:Int),.int .i64 (n:Int),.int .i64 (q:Int),.int .i64 (m:Int),.int .u64 (qu:Int),.int .u64 (ag:Int)] 41)) ((Below.refl _ _).alloc (Nat.le_refl _) _) (aV w #[.int .i64 (P:Int),.int .i64 (n:Int),.int .i64 (q:Int),.int .i64 (m:Int),.int .u64 (qu:Int),.int .u64 (ag:Int)] 41 0 _ rfl)
 have kz:W0.heap[w.heap.size+1]? =some (.cells cC 35 (0,0)):=by
  rw[←hW0]
  have:=(MapKept.heap_alloc (w.alloc (.cells #[.int .i64 (P:Int),.int .i64 (n:Int),.int .i64 (q:Int),.int .i64 (m:Int),.int .u64 (qu:Int),.int .u64 (ag:Int)] 41)) (.cells cC 35)).1
  rwa [show(w.alloc (.cells #[.int .i64 (P:Int),.int .i64 (n:Int),.int .i64 (q:Int),.int .i64 (m:Int),.int .u64 (qu:Int),.int .u64 (ag:Int)] 41)).heap.size=w.heap.size+1 by simp] at this
 have HN:Hid (Calls Tryz.prog 18 #[.agg #[.int .i64 (P:Int),.int .i64 (n:Int),.int .i64 (q:Int),.int .i64 (m:Int),.int .u64 (qu:Int),.int .u64 (ag:Int)]] W0 fun e w'=> ∃a,e= .returned (.pointer (some ⟨a.m,0,none⟩))∧pN w w' a P n q 0 (dP P n m qu ag) (fun k=>k=w.heap.size∨k=w.heap.size+1)∧w'.cell? ⟨w.heap.size,0,none⟩=some (.int .i64 (P:Int))∧w'.heap[w.heap.size+1]? =some (.cells cC 35 (0,0))):=by
  refine(fL P n q m qu ag hP hn hq hm hqu hag _ (ht.below hb0)).mono ?_
  rintro e w' ⟨a,lab,he,hi,hl,hb⟩
  refine⟨a,he,⟨⟨lab,hi,fun k hk=> ?_,fun k q=>⟨?_,?_⟩⟩,bt hb0 hb⟩,kc hb k0,(hb.block _ (by omega)).trans kz⟩
  ·have:=hl k hk
   omega
  ·apply Classical.byContradiction
   intro hne
   have:=hl k hne
   omega
  ·have:=hb.size
   omega
 have HD:Hid (∀V,Below w.heap.size w V→Calls Tryz.prog 19 #[bv] V fun e w'=> ∃v,e= .returned (.tuple #[v,.int .i64 0,.int .i64 0])∧GR w' v L (fun k=>V.heap.size≤k∧k<w'.heap.size)∧Below V.heap.size V w'):=fun V hV=>by
  refine(hdec V hV).mono ?_
  rintro e w' ⟨Z,v,hZ,rfl,hR,hb⟩
  have:=GR.of hR
  rw[hZ] at this
  exact⟨v,rfl,this,hb⟩
 have HST:=aa hst
 have HJ0:=aa hJ0
 have HW0:=aa hW0
 have hzr:=Fw
 have hsr:=C8
 clear hb0 k0 ht hdec hst hJ0 hP hn hq hm hqu hag hW0 hz0 kz
 go_enter Tryz.func10,Tryz.ntmps10
 go_wp2_with (go_at_call 18;have hw0:=HW0.out;unfold cC at hw0;rw[hw0];refine(HN.out).mono ?_;rintro e w1 ⟨ad,rfl,hA1,c1,z1⟩;have HA1:=aa hA1;have HZ1:=aa z1;clear hA1 z1 HN hw0)
 obtain⟨E2,hE2⟩: ∃E2:World→Nat→Prop,∀w2 k,E2 w2 k↔((k=w.heap.size∨k=w.heap.size+1)∨(w1.heap.size≤k∧k<w2.heap.size)):=⟨fun w2 k=>(k=w.heap.size∨k=w.heap.size+1)∨(w1.heap.size≤k∧k<w2.heap.size),fun _ _=>Iff.rfl⟩
 have HE2:=aa hE2
 clear hE2
 go_wp2_with (go_at_call 19;refine(HD.out w1 HA1.out.eI).mono ?_;rintro e w2 ⟨v2,rfl,hr2,hb2⟩;obtain⟨a2,cp2,rfl⟩:=hr2.len;have HR2:=aa hr2;have c2:=kc hb2 c1;have HB2:=aa hb2;clear hr2 hb2 HD)
 have h12:w.heap.size+1<w1.heap.size:=by
  obtain⟨⟨lab,hi,h1,h2⟩,hb⟩:=HA1.out
  exact(h2 _ (.inr rfl)).2
 have h22:w1.heap.size≤w2.heap.size:=HB2.out.size
 have HRS0:Hid (RS w (w2.alloc (.cells (Bd ad.m (P:Int)) 73)) ad P n q 0 (dP P n m qu ag) w2.heap.size [] [] (.slice none 0 0) (E2 w2)):=by
  refine⟨.slice none 0 0,HA1.out.below (bt HB2.out ((Below.refl _ _).alloc (Nat.le_refl _) _)) (fun k q=> ?_),by rw[qR];exact Em w2 ad.m (P:Int),gL.nil _ _,⟨rfl,.inl ⟨rfl,rfl⟩⟩,fun k q=>⟨?_,by simp[Value.ownBlock],by simp[Value.ownBlock]⟩,by omega,by omega⟩
  ·have hsz:(w2.alloc (.cells (Bd ad.m (P:Int)) 73)).heap.size=w2.heap.size+1:=by simp
   rcases q with q|q|q|q
   ·exact .inr ⟨by omega,by omega⟩
   ·simp[Value.ownBlock] at q
   ·simp[Value.ownBlock] at q
   ·rcases(HE2.out w2 k).1 q with q|q
    ·exact .inl q
    ·exact .inr ⟨q.1,by omega⟩
  ·rcases(HE2.out w2 k).1 q with q|q
   ·omega
   ·omega
 have HK0:Hid (∀k,E2 w2 k→(w2.alloc (.cells (Bd ad.m (P:Int)) 73)).heap[k]? =w2.heap[k]?):=fun k q=>Below.heap_alloc _ _ _ (by rcases(HE2.out w2 k).1 q with q|q<;>omega)
 generalize (w2.alloc (.cells (Bd ad.m (P:Int)) 73))=W3 at*
 obtain⟨len,hlen⟩: ∃len,L.length=len:=⟨_,rfl⟩
 have HLEN:=aa hlen
 rw[hlen] at hL⊢
 clear hlen
 go_loopw [34] (fun iv wr=> ∃(j T:Nat) (M:Mc) (evs:List Ev) (errs:List Int) (er:Value),j≤len∧iv= .int .i64 (j:Int)∧errs.length=j∧J j T M evs errs∧RS w wr ad P n q T M w2.heap.size evs errs er (E2 w2)∧ ∀k,E2 w2 k→wr.heap[k]? =w2.heap[k]?) (fun iv _=>len-(RowKit.intOf iv).toNat)
 case atStart=>exact⟨0,0,_,[],[],_,Nat.zero_le _,rfl,rfl,HJ0.out,HRS0.out,HK0.out⟩
 case round=>
  obtain⟨j,T,M,evs,errs,er,hj,rfl,ja,hJ,hR,hK⟩:=hrel
  obtain⟨ae,ce,rfl⟩:=Cb.aH hR.DE.1
  clear HRS0 HK0 HJ0
  by_cases hjl:j<len
  ·have hjl':(j:Int)<(len:Int):=by omega
   obtain⟨x,hx⟩: ∃x,L[j]? =some x:=⟨L[j]'(by rw[HLEN.out];exact hjl),List.getElem?_eq_getElem _⟩
   obtain⟨g,ca,cc,⟨cq,hvq⟩,hEg,hcell,hprg⟩:=HR2.out.at_ j x hx
   injection hvq with hvq1 hvq2 hvq3
   subst hvq1
   have hg2:E2 w2 g:=(HE2.out w2 g).2 (.inr hEg)
   have hgk:=hK g hg2
   have y: ∀(i:Nat) (u:Value),(Ex.ec x ca cc)[i]? =some u→wr.cell? ⟨g,j*10+i,none⟩=some u:=fun i u hu=>(World.cell?_of_block hgk).trans (hcell i u hu)
   have y0:=y 0 _ rfl;have y1:=y 1 _ rfl;have y2:=y 2 _ rfl;have y3:=y 3 _ rfl;have y4:=y 4 _ rfl
   have y5:=y 5 _ rfl;have y6:=y 6 _ rfl;have y7:=y 7 _ rfl;have y8:=y 8 _ rfl;have y9:=y 9 _ rfl
   rw[Nat.add_zero] at y0
   have hbB:Below wr.heap.size wr ((wr.alloc (.cells #[.int .i64 x.d,.int .i64 x.p,.int .u64 (x.dr:Int),.int .i64 x.n,.slice ca x.code.length cc,.int .u64 (x.bu:Int),.int .u64 (x.pe:Int),.int .i64 x.pr,.int .u8 (x.lv:Int),.int .i64 x.sv] 51)).drew):=((Below.refl _ _).alloc (Nat.le_refl _) _).drew
   have hszB:((wr.alloc (.cells #[.int .i64 x.d,.int .i64 x.p,.int .u64 (x.dr:Int),.int .i64 x.n,.slice ca x.code.length cc,.int .u64 (x.bu:Int),.int .u64 (x.pe:Int),.int .i64 x.pr,.int .u8 (x.lv:Int),.int .i64 x.sv] 51)).drew).heap.size=wr.heap.size+1:=by show(wr.alloc (.cells #[.int .i64 x.d,.int .i64 x.p,.int .u64 (x.dr:Int),.int .i64 x.n,.slice ca x.code.length cc,.int .u64 (x.bu:Int),.int .u64 (x.pe:Int),.int .i64 x.pr,.int .u8 (x.lv:Int),.int .i64 x.sv] 51)).heap.size=_;simp
   have hel2: ∀k,E2 w2 k→k<wr.heap.size:=fun k q=>hR.Ba q
   have hRB:=hR.add hbB (E':=fun k=>E2 w2 k∨k=wr.heap.size) (fun k q=>q.elim .inl (fun q=> .inr ⟨by omega,by omega⟩))
   have HDO:=aa (HST.out j x hx ((wr.alloc (.cells #[.int .i64 x.d,.int .i64 x.p,.int .u64 (x.dr:Int),.int .i64 x.n,.slice ca x.code.length cc,.int .u64 (x.bu:Int),.int .u64 (x.pe:Int),.int .i64 x.pr,.int .u8 (x.lv:Int),.int .i64 x.sv] 51)).drew) ad T M w2.heap.size evs errs _ _ ca cc hJ hRB (hprg _ (fun k q=>(hbB.block k (hel2 k ((HE2.out w2 k).2 (.inr q)))).trans (hK k ((HE2.out w2 k).2 (.inr q)))) (fun k q=>by have:=hel2 k ((HE2.out w2 k).2 (.inr q));omega)))
   have bb:=fun (i:Nat) (u:Value) (h:(#[.int .i64 x.d,.int .i64 x.p,.int .u64 (x.dr:Int),.int .i64 x.n,.slice ca x.code.length cc,.int .u64 (x.bu:Int),.int .u64 (x.pe:Int),.int .i64 x.pr,.int .u8 (x.lv:Int),.int .i64 x.sv]:Array Value)[i]? =some u)=>kc (W:=((wr.alloc (.cells #[.int .i64 x.d,.int .i64 x.p,.int .u64 (x.dr:Int),.int .i64 x.n,.slice ca x.code.length cc,.int .u64 (x.bu:Int),.int .u64 (x.pe:Int),.int .i64 x.pr,.int .u8 (x.lv:Int),.int .i64 x.sv] 51)).drew)) (Below.refl _ _).drew (aV wr #[.int .i64 x.d,.int .i64 x.p,.int .u64 (x.dr:Int),.int .i64 x.n,.slice ca x.code.length cc,.int .u64 (x.bu:Int),.int .u64 (x.pe:Int),.int .i64 x.pr,.int .u8 (x.lv:Int),.int .i64 x.sv] 51 i u h)
   have HS:Hid (∀W:World,W.heap[wr.heap.size]? =((wr.alloc (.cells #[.int .i64 x.d,.int .i64 x.p,.int .u64 (x.dr:Int),.int .i64 x.n,.slice ca x.code.length cc,.int .u64 (x.bu:Int),.int .u64 (x.pe:Int),.int .i64 x.pr,.int .u8 (x.lv:Int),.int .i64 x.sv] 51)).drew).heap[wr.heap.size]? →(W.cell? ⟨wr.heap.size,0,none⟩=some (.int .i64 x.d)∧W.cell? ⟨wr.heap.size,1,none⟩=some (.int .i64 x.p)∧W.cell? ⟨wr.heap.size,2,none⟩=some (.int .u64 (x.dr:Int))∧W.cell? ⟨wr.heap.size,3,none⟩=some (.int .i64 x.n)∧W.cell? ⟨wr.heap.size,4,none⟩=some (.slice ca x.code.length cc)∧W.cell? ⟨wr.heap.size,5,none⟩=some (.int .u64 (x.bu:Int))∧W.cell? ⟨wr.heap.size,6,none⟩=some (.int .u64 (x.pe:Int))∧W.cell? ⟨wr.heap.size,7,none⟩=some (.int .i64 x.pr)∧W.cell? ⟨wr.heap.size,8,none⟩=some (.int .u8 (x.lv:Int))∧W.cell? ⟨wr.heap.size,9,none⟩=some (.int .i64 x.sv))):=fun W hW=>⟨(World.cell?_of_block hW).trans (bb 0 _ rfl),(World.cell?_of_block hW).trans (bb 1 _ rfl),(World.cell?_of_block hW).trans (bb 2 _ rfl),(World.cell?_of_block hW).trans (bb 3 _ rfl),(World.cell?_of_block hW).trans (bb 4 _ rfl),(World.cell?_of_block hW).trans (bb 5 _ rfl),(World.cell?_of_block hW).trans (bb 6 _ rfl),(World.cell?_of_block hW).trans (bb 7 _ rfl),(World.cell?_of_block hW).trans (bb 8 _ rfl),(World.cell?_of_block hW).trans (bb 9 _ rfl)⟩
   have hne2:wr.heap.size≠w2.heap.size:=by have:=hR.lt;omega
   have e1b:=hRB.DE.2.1
   have HKW:=aa (fun k (q:E2 w2 k)=>(hbB.block k (hel2 k q)).trans (hK k q))
   have hlen2:errs.length≤1000:=by omega
   have HEL:=aa ja
   obtain⟨i0,hi0,hz0,hz1,hz2⟩:=Cb.info_parts Cp
   unfold Gn at HDO
   clear hcell hprg hJ hR hK hx hEg hg2 hgk y hvq2 hvq3 hbB hRB bb hel2 ja
   go_wp2
   refine wp_region_held_drew (S:=(fun w'=>w'.cell? ⟨wr.heap.size,0,none⟩=some (.int .i64 x.d)∧w'.cell? ⟨wr.heap.size,1,none⟩=some (.int .i64 x.p)∧w'.cell? ⟨wr.heap.size,2,none⟩=some (.int .u64 (x.dr:Int))∧w'.cell? ⟨wr.heap.size,3,none⟩=some (.int .i64 x.n)∧w'.cell? ⟨wr.heap.size,4,none⟩=some (.slice ca x.code.length cc)∧w'.cell? ⟨wr.heap.size,5,none⟩=some (.int .u64 (x.bu:Int))∧w'.cell? ⟨wr.heap.size,6,none⟩=some (.int .u64 (x.pe:Int))∧w'.cell? ⟨wr.heap.size,7,none⟩=some (.int .i64 x.pr)∧w'.cell? ⟨wr.heap.size,8,none⟩=some (.int .u8 (x.lv:Int))∧w'.cell? ⟨wr.heap.size,9,none⟩=some (.int .i64 x.sv))) (by kernel_rfl) ?_ (fun hHeld=> ?_)
   ·exact HS.out _ rfl
   refine aF 0 (v:= ?_) rfl ?v0 ?_
   case v0=>(intro w hSw;(try dsimp only at hSw);obtain⟨hSa,hSb,hSc,hSd,hSe,hSf,hSg,hSh,hSi,hSj⟩:=hSw;go_simp;try with_reducible rfl)
   try simp only[ao]
   refine aF 1 (v:= ?_) rfl ?v1 ?_
   case v1=>(intro w hSw;(try dsimp only at hSw);obtain⟨hSa,hSb,hSc,hSd,hSe,hSf,hSg,hSh,hSi,hSj⟩:=hSw;go_simp;try with_reducible rfl)
   try simp only[ao]
   refine aF 3 (v:= ?_) rfl ?v3 ?_
   case v3=>(intro w hSw;(try dsimp only at hSw);obtain⟨hSa,hSb,hSc,hSd,hSe,hSf,hSg,hSh,hSi,hSj⟩:=hSw;go_simp;try with_reducible rfl)
   try simp only[ao]
   refine wpAnyH_ready (rs:=[2,4]) (by kernel_rfl) (by simp) ?_
   refine AllReadyH.cons rfl (fun K hK=> ?_) (AllReadyH.cons rfl (fun K hK=> ?_) AllReadyH.nil)
   ·skip
    go_simp
    refine hK.out _ _ ?_ (fun hHeld=> ?_)
    ·exact hHeld
    clear hK K
    try simp only[ao]
    refine bc 4 rfl (fun K hK=> ?_)
    go_simp
    go_at_call 20
    refine(HDO.out).mono ?_
    rintro e w5 ⟨T5,M5,evs5,c5,hC5,hJ5⟩
    obtain⟨rfl,hR5,hK5⟩:=hC5
    have hb5:=hK5 _ (.inr rfl)
    have e15:=hR5.DE.2.1
    have hn5:Below w5.heap.size w5 (w5.alloc (.cells #[.int .i64 c5] 36)):=(Below.refl _ _).alloc (Nat.le_refl _) _
    have hR6:=hR5.below hn5
    have e16:=hR6.DE.2.1
    have HR6:=aa hR6
    have HO6:=aa hR6.DE.1
    have HK5:=aa hK5
    have HJ5:=aa hJ5
    have HS5:=aa (HS.out w5 hb5)
    have h6b:=(hn5.block _ (hR5.Ba (k:=wr.heap.size) (.inr rfl))).trans hb5
    have HS6:=aa (HS.out _ h6b)
    have HB6:=aa h6b
    have HK6:=aa (fun k (q:E2 w2 k)=>(hn5.block k (hR5.Ba (.inl q))).trans ((hK5 k (.inl q)).trans (HKW.out k q)))
    clear hR5 hK5 hJ5 hb5 hn5 hR6 h6b
    refine hK.out _ _ ?_ (fun hHeld=> ?_)
    ·exact HS5.out
    clear hK K
    try simp only[ao]
    refine bc 5 rfl (fun K hK=> ?_)
    go_simp
    refine hK.out _ _ ?_ (fun hHeld=> ?_)
    ·exact HS6.out
    clear hK K
    try simp only[ao]
    refine bc 6 rfl (fun K hK=> ?_)
    refine bM _ (by rfl) _ _ _ (by rfl) (w2.heap.size+1) 36 i0 (.int .i64 0) 1 8 Tryz.underlying32 hi0 hz0 hz1 hz2 rfl (by decide) (.slice ae errs.length ce) errs.length (errs.map (fun e=> .int .i64 e)) (by rfl) HO6.out ⟨w5.heap.size,0,none⟩ 1 1 [.int .i64 c5] (by rfl) rfl (Cb.lB (w1:=w5) (c:=[.int .i64 c5]) rfl) (by simp[Value.oneCell']) (by unfold maxLen;omega) (by omega) (by have:=HR6.out.lt;omega) ?_
    intro v7 w7 ho7 hg7 hat7
    obtain⟨c7,f7,hR7,hK7⟩:=HR6.out.err ho7 hg7 hat7
    obtain⟨a7,d7,rfl⟩:=Cb.aH ho7
    have HR7:=aa hR7
    have HK7:=aa hK7
    have h7b:=(hK7 _ (.inr rfl)).trans HB6.out
    have HS9:=aa (HS.out _ h7b)
    have HS7:=aa (HS.out w7 ((Below.heap_setCell _ _ _ _ hne2).symm.trans h7b))
    have HK9:=aa (fun k (q:E2 w2 k)=>(hK7 k (.inl q)).trans (HK6.out k q))
    clear ho7 hg7 hat7 hR7 hK7 h7b
    refine hK.out _ _ ?_ (fun hHeld=> ?_)
    ·exact HS7.out
    clear hK K
    try simp only[ao]
    refine aF 7 (v:= ?_) rfl ?v7 ?_
    case v7=>(intro w hSw;(try dsimp only at hSw);obtain⟨hSa,hSb,hSc,hSd,hSe,hSf,hSg,hSh,hSi,hSj⟩:=hSw;go_simp;try with_reducible rfl)
    try simp only[ao]
    refine aF 8 (v:= ?_) rfl ?v8 ?_
    case v8=>(intro w hSw;(try dsimp only at hSw);obtain⟨hSa,hSb,hSc,hSd,hSe,hSf,hSg,hSh,hSi,hSj⟩:=hSw;go_simp;try with_reducible rfl)
    try simp only[ao]
    refine bc 9 rfl (fun K hK=> ?_)
    go_simp
    refine hK.out _ _ ?_ (fun hHeld=> ?_)
    ·exact HS9.out
    clear hK K
    try simp only[ao]
    refine wpAnyH_done (by kernel_rfl) ?_ _
    go_wp2
    go_roundw
    case rel=>exact⟨j+1,T5,M5,evs5,errs++[c5],_,by omega,by go_num,by simp[HEL.out],HJ5.out,HR7.out.less (fun k q=> .inl q),HK9.out⟩
    case measure=>simp[RowKit.intOf];omega
   ·skip
    go_simp
    go_at_call 20
    refine(HDO.out).mono ?_
    rintro e w5 ⟨T5,M5,evs5,c5,hC5,hJ5⟩
    obtain⟨rfl,hR5,hK5⟩:=hC5
    have hb5:=hK5 _ (.inr rfl)
    have e15:=hR5.DE.2.1
    have hn5:Below w5.heap.size w5 (w5.alloc (.cells #[.int .i64 c5] 36)):=(Below.refl _ _).alloc (Nat.le_refl _) _
    have hR6:=hR5.below hn5
    have e16:=hR6.DE.2.1
    have HR6:=aa hR6
    have HO6:=aa hR6.DE.1
    have HK5:=aa hK5
    have HJ5:=aa hJ5
    have HS5:=aa (HS.out w5 hb5)
    have h6b:=(hn5.block _ (hR5.Ba (k:=wr.heap.size) (.inr rfl))).trans hb5
    have HS6:=aa (HS.out _ h6b)
    have HB6:=aa h6b
    have HK6:=aa (fun k (q:E2 w2 k)=>(hn5.block k (hR5.Ba (.inl q))).trans ((hK5 k (.inl q)).trans (HKW.out k q)))
    clear hR5 hK5 hJ5 hb5 hn5 hR6 h6b
    refine hK.out _ _ ?_ (fun hHeld=> ?_)
    ·exact HS5.out
    clear hK K
    try simp only[ao]
    refine wpAnyH_ready (rs:=[2,5]) (by kernel_rfl) (by simp) ?_
    refine AllReadyH.cons rfl (fun K hK=> ?_) (AllReadyH.cons rfl (fun K hK=> ?_) AllReadyH.nil)
    ·skip
     go_simp
     refine hK.out _ _ ?_ (fun hHeld=> ?_)
     ·exact hHeld
     clear hK K
     try simp only[ao]
     refine bc 5 rfl (fun K hK=> ?_)
     go_simp
     refine hK.out _ _ ?_ (fun hHeld=> ?_)
     ·exact HS6.out
     clear hK K
     try simp only[ao]
     refine bc 6 rfl (fun K hK=> ?_)
     refine bM _ (by rfl) _ _ _ (by rfl) (w2.heap.size+1) 36 i0 (.int .i64 0) 1 8 Tryz.underlying32 hi0 hz0 hz1 hz2 rfl (by decide) (.slice ae errs.length ce) errs.length (errs.map (fun e=> .int .i64 e)) (by rfl) HO6.out ⟨w5.heap.size,0,none⟩ 1 1 [.int .i64 c5] (by rfl) rfl (Cb.lB (w1:=w5) (c:=[.int .i64 c5]) rfl) (by simp[Value.oneCell']) (by unfold maxLen;omega) (by omega) (by have:=HR6.out.lt;omega) ?_
     intro v7 w7 ho7 hg7 hat7
     obtain⟨c7,f7,hR7,hK7⟩:=HR6.out.err ho7 hg7 hat7
     obtain⟨a7,d7,rfl⟩:=Cb.aH ho7
     have HR7:=aa hR7
     have HK7:=aa hK7
     have h7b:=(hK7 _ (.inr rfl)).trans HB6.out
     have HS9:=aa (HS.out _ h7b)
     have HS7:=aa (HS.out w7 ((Below.heap_setCell _ _ _ _ hne2).symm.trans h7b))
     have HK9:=aa (fun k (q:E2 w2 k)=>(hK7 k (.inl q)).trans (HK6.out k q))
     clear ho7 hg7 hat7 hR7 hK7 h7b
     refine hK.out _ _ ?_ (fun hHeld=> ?_)
     ·exact HS7.out
     clear hK K
     try simp only[ao]
     refine aF 7 (v:= ?_) rfl ?v7 ?_
     case v7=>(intro w hSw;(try dsimp only at hSw);obtain⟨hSa,hSb,hSc,hSd,hSe,hSf,hSg,hSh,hSi,hSj⟩:=hSw;go_simp;try with_reducible rfl)
     try simp only[ao]
     refine aF 8 (v:= ?_) rfl ?v8 ?_
     case v8=>(intro w hSw;(try dsimp only at hSw);obtain⟨hSa,hSb,hSc,hSd,hSe,hSf,hSg,hSh,hSi,hSj⟩:=hSw;go_simp;try with_reducible rfl)
     try simp only[ao]
     refine bc 9 rfl (fun K hK=> ?_)
     go_simp
     refine hK.out _ _ ?_ (fun hHeld=> ?_)
     ·exact HS9.out
     clear hK K
     try simp only[ao]
     refine wpAnyH_done (by kernel_rfl) ?_ _
     go_wp2
     go_roundw
     case rel=>exact⟨j+1,T5,M5,evs5,errs++[c5],_,by omega,by go_num,by simp[HEL.out],HJ5.out,HR7.out.less (fun k q=> .inl q),HK9.out⟩
     case measure=>simp[RowKit.intOf];omega
    ·skip
     go_simp
     refine hK.out _ _ ?_ (fun hHeld=> ?_)
     ·exact HS6.out
     clear hK K
     try simp only[ao]
     refine bc 2 rfl (fun K hK=> ?_)
     go_simp
     refine hK.out _ _ ?_ (fun hHeld=> ?_)
     ·exact hHeld
     clear hK K
     try simp only[ao]
     refine bc 6 rfl (fun K hK=> ?_)
     refine bM _ (by rfl) _ _ _ (by rfl) (w2.heap.size+1) 36 i0 (.int .i64 0) 1 8 Tryz.underlying32 hi0 hz0 hz1 hz2 rfl (by decide) (.slice ae errs.length ce) errs.length (errs.map (fun e=> .int .i64 e)) (by rfl) HO6.out ⟨w5.heap.size,0,none⟩ 1 1 [.int .i64 c5] (by rfl) rfl (Cb.lB (w1:=w5) (c:=[.int .i64 c5]) rfl) (by simp[Value.oneCell']) (by unfold maxLen;omega) (by omega) (by have:=HR6.out.lt;omega) ?_
     intro v7 w7 ho7 hg7 hat7
     obtain⟨c7,f7,hR7,hK7⟩:=HR6.out.err ho7 hg7 hat7
     obtain⟨a7,d7,rfl⟩:=Cb.aH ho7
     have HR7:=aa hR7
     have HK7:=aa hK7
     have h7b:=(hK7 _ (.inr rfl)).trans HB6.out
     have HS9:=aa (HS.out _ h7b)
     have HS7:=aa (HS.out w7 ((Below.heap_setCell _ _ _ _ hne2).symm.trans h7b))
     have HK9:=aa (fun k (q:E2 w2 k)=>(hK7 k (.inl q)).trans (HK6.out k q))
     clear ho7 hg7 hat7 hR7 hK7 h7b
     refine hK.out _ _ ?_ (fun hHeld=> ?_)
     ·exact HS7.out
     clear hK K
     try simp only[ao]
     refine aF 7 (v:= ?_) rfl ?v7 ?_
     case v7=>(intro w hSw;(try dsimp only at hSw);obtain⟨hSa,hSb,hSc,hSd,hSe,hSf,hSg,hSh,hSi,hSj⟩:=hSw;go_simp;try with_reducible rfl)
     try simp only[ao]
     refine aF 8 (v:= ?_) rfl ?v8 ?_
     case v8=>(intro w hSw;(try dsimp only at hSw);obtain⟨hSa,hSb,hSc,hSd,hSe,hSf,hSg,hSh,hSi,hSj⟩:=hSw;go_simp;try with_reducible rfl)
     try simp only[ao]
     refine bc 9 rfl (fun K hK=> ?_)
     go_simp
     refine hK.out _ _ ?_ (fun hHeld=> ?_)
     ·exact HS9.out
     clear hK K
     try simp only[ao]
     refine wpAnyH_done (by kernel_rfl) ?_ _
     go_wp2
     go_roundw
     case rel=>exact⟨j+1,T5,M5,evs5,errs++[c5],_,by omega,by go_num,by simp[HEL.out],HJ5.out,HR7.out.less (fun k q=> .inl q),HK9.out⟩
     case measure=>simp[RowKit.intOf];omega
  ·have hjl': ¬(j:Int)<(len:Int):=by omega
   have ej:j=len:=by omega
   subst ej
   have hbz:wr.heap[w.heap.size+1]? =some (.cells cC 35 (0,0)):=(hK _ ((HE2.out w2 _).2 (.inl (.inr rfl)))).trans ((HB2.out.block _ h12).trans HZ1.out)
   have hBW:=hR.eI
   have hlt1:w.heap.size+1<wr.heap.size:=by have:=hR.lt;omega
   obtain⟨ev,hA,hRB,hEv,hEr,hs,hw0,hrb0⟩:=hR
   obtain⟨ae2,ce2,rfl⟩:=Cb.aH hEv
   have r20:=hRB.c20;have r21:=hRB.c21
   have HSH:=aa BG
   have hne4: ¬w.heap.size+1=w2.heap.size:=by omega
   have HJ:=aa hJ
   have HEV:=aa hEv
   have HER:=aa hEr
   have HBW:=aa hBW
   have HRB:=aa hRB
   have HBZ:=aa hbz
   have HRW:=aa hw0
   clear hA hRB hEv hEr hs hJ hK hbz hBW ja hw0
   go_upto_region 14 with (go_at_call 14;refine(HSH.out _).mono ?_;rintro e w8 ⟨f,rfl,hf,hw8⟩;have hB8: ∀k:Nat,w8.heap[k]? =wr.heap[k]? :=(fun k=>by rw[hw8];rfl);have hRB8:=HRB.out.kept (hB8 _);have r17:=hRB8.c17;have rf17:=hRB8.fz 17;have HRB8:=aa hRB8;have HBZ8:=aa ((hB8 _).trans HBZ.out);have HB8:=aa hB8;have HW8:=aa hw8;have HNF:=aa hf;clear hw8 hB8 hRB8 hf)
   have hrow:=HRB8.out.row f
   have hbz9:(w8.setCell ⟨w2.heap.size,17,none⟩ (.float .f64 f)).heap[w.heap.size+1]? =some (.cells cC 35 (0,0)):=(Below.heap_setCell _ _ _ _ hne4).trans HBZ8.out
   have hk9: ∀k:Nat,k≠w2.heap.size→(w8.setCell ⟨w2.heap.size,17,none⟩ (.float .f64 f)).heap[k]? =wr.heap[k]? :=fun k hk=>(Below.heap_setCell _ _ _ _ hk).trans (HB8.out k)
   have hsz9:(w8.setCell ⟨w2.heap.size,17,none⟩ (.float .f64 f)).heap.size=wr.heap.size:=by rw[HW8.out,World.size_setCell];rfl
   have hot9:(w8.setCell ⟨w2.heap.size,17,none⟩ (.float .f64 f)).os=wr.os∧(w8.setCell ⟨w2.heap.size,17,none⟩ (.float .f64 f)).tape=wr.tape∧(w8.setCell ⟨w2.heap.size,17,none⟩ (.float .f64 f)).output=wr.output:=by rw[HW8.out];exact⟨rfl,rfl,rfl⟩
   generalize (w8.setCell ⟨w2.heap.size,17,none⟩ (.float .f64 f))=w9 at*
   obtain⟨row,hrw⟩: ∃row,(gM (.slice ae2 evs.length ce2) (.slice ae errs.length ce) (fG (fun _=>0) evs) f).toList=row:=⟨_,rfl⟩
   have hAs:row.length=18:=by rw[←hrw];rfl
   have hA1:row.toArray.all (·.oneCell')=true:=by
    rw[←hrw]
    simp[gM,Value.oneCell']
   have hrg:w9.rangeAt w2.heap.size 0 row:=fun j v hv=>by
    rw[Nat.zero_add]
    exact hrow j v (by rw[←hrw] at hv;simpa using hv)
   have hcz: ∀j:Nat,(w9.setRow (w.heap.size+1) row.toArray).cell? ⟨w.heap.size+1,j,none⟩=row[j]? :=fun j=>by rw[cell_setRow_same w9 _ j cC _ _ (0,0) hbz9];simp
   have hinfo:(Tryz.prog.info? 35).map (·.size)=some row.length:=by rw[hAs];kernel_rfl
   have hinfo2:(Tryz.prog.info? 35).map (·.size)=some row.toArray.size:=by rw[List.size_toArray];exact hinfo
   have hzs:cC.size=row.toArray.size:=by show 18=row.toArray.size;rw[List.size_toArray,hAs]
   have HBZ9:=aa hbz9
   have HRG:=aa hrg
   have HA1:=aa hA1
   have HIN:=aa hinfo
   have HIN2:=aa hinfo2
   have HZS:=aa hzs
   have HRWW:=aa hrw
   have HCZ:=aa hcz
   have HAS:=aa hAs
   have HK9:=aa hk9
   have HSZ:=aa hsz9
   have HOT:=aa hot9
   clear hrow hbz9 hk9 hsz9 hot9 hA1 hcz HRB8 HBZ8 HB8 r17 rf17 r20 r21 hrg hinfo hinfo2 hzs hrw hAs
   go_wp2_with (first
    |(refine wpList_load_mid rfl 35 _ rfl w2.heap.size 0 (by rfl) row _ HRG.out Tryz.underlying35 rfl HIN.out ?_)
    |(refine wpList_store_row rfl 35 _ _ rfl (w.heap.size+1) row.toArray (by rfl) (by rfl) 35 cC HBZ9.out HIN2.out HZS.out HA1.out ?_))
   have hlv:=run_loadVar_mid (P:=Tryz.prog) (w9.setRow (w.heap.size+1) row.toArray) (w.heap.size+1) 0 35 row _ (fun j v hv=>by rw[Nat.zero_add];exact(HCZ.out j).trans hv) Tryz.underlying35 rfl HIN.out
   refine bodyPost_ret (v:= .tuple #[.agg row.toArray,.int .i64 0]) ?_ rfl ?_
   ·simp[results,Tryz.f10,asAddr,hlv]
   ·have hrb:=HRW.out
    have hkk: ∀k:Nat,k≠w2.heap.size→k≠w.heap.size+1→(w9.setRow (w.heap.size+1) row.toArray).heap[k]? =wr.heap[k]? :=fun k h1 h2=>(setRow_other _ _ _ _ h2).trans (HK9.out k h1)
    refine⟨_,_,f,T,M,evs,errs,by rw[HLEN.out];exact HJ.out,by rw[←HRWW.out],HNF.out,?_,?_,?_⟩
    ·exact aN (rR HEV.out (by omega)) (fun k q=>by have:=(HEV.out.A9 q).1;exact hkk k (by omega) (by omega))
    ·exact aN (rR HER.out (by omega)) (fun k q=>by have:=(HER.out.lt q).1;exact hkk k (by omega) (by omega))
    ·refine⟨HOT.out.1.trans HBW.out.os,HOT.out.2.1.trans HBW.out.tape,HOT.out.2.2.trans HBW.out.output,?_,fun k hk=>(hkk k (by omega) (by omega)).trans (HBW.out.block k hk)⟩
     have h1:=HBW.out.size
     have h2:(w9.setRow (w.heap.size+1) row.toArray).heap.size=w9.heap.size:=by simp[World.setRow]
     rw[h2,HSZ.out]
     exact h1
theorem yq (w:World):(Instr.build 35 #[]).run Tryz.prog w= .ok (.agg cC) w:=run_build w 35 _ _ (by kernel_rfl)
theorem BN (P n q m qu ag:Nat) (hP:1≤P∧P≤64) (hn:1≤n∧n≤1024) (hq:1≤q∧q≤256) (hm:m≤32) (hqu:1≤qu∧qu<18446744073709551616) (hag:1≤ag∧ag<18446744073709551616) (w:World) (ht:Gt.ju w) (bv:Value)
  (hdec: ∀V,Below w.heap.size w V→Calls Tryz.prog 19 #[bv] V (fun e w'=>(∃d:Int,e= .returned (.tuple #[.slice none 0 0,.int .i64 3,.int .i64 d]))∧Below V.heap.size V w')):
  Calls Tryz.prog 10 #[.agg #[.int .i64 (P:Int),.int .i64 (n:Int),.int .i64 (q:Int),.int .i64 (m:Int),.int .u64 (qu:Int),.int .u64 (ag:Int)],bv] w fun e w'=>e= .returned (.tuple #[.agg cC,.int .i64 3])∧Below w.heap.size w w':=by
 obtain⟨W0,hW0⟩: ∃W0,(w.alloc (.cells #[.int .i64 (P:Int),.int .i64 (n:Int),.int .i64 (q:Int),.int .i64 (m:Int),.int .u64 (qu:Int),.int .u64 (ag:Int)] 41)).alloc (.cells cC 35)=W0:=⟨_,rfl⟩
 have hb0:Below w.heap.size w W0:=by rw[←hW0];exact((Below.refl _ _).alloc (Nat.le_refl _) _).alloc (by simp) _
 have hz0:W0.heap.size=w.heap.size+2:=by rw[←hW0];simp
 have k0:W0.cell? ⟨w.heap.size,0,none⟩=some (.int .i64 (P:Int)):=by
  rw[←hW0]
  exact kc (W0:=w.alloc (.cells #[.int .i64 (P:Int),.int .i64 (n:Int),.int .i64 (q:Int),.int .i64 (m:Int),.int .u64 (qu:Int),.int .u64 (ag:Int)] 41)) ((Below.refl _ _).alloc (Nat.le_refl _) _) (aV w #[.int .i64 (P:Int),.int .i64 (n:Int),.int .i64 (q:Int),.int .i64 (m:Int),.int .u64 (qu:Int),.int .u64 (ag:Int)] 41 0 _ rfl)
 have kz:W0.heap[w.heap.size+1]? =some (.cells cC 35 (0,0)):=by
  rw[←hW0]
  have:=(MapKept.heap_alloc (w.alloc (.cells #[.int .i64 (P:Int),.int .i64 (n:Int),.int .i64 (q:Int),.int .i64 (m:Int),.int .u64 (qu:Int),.int .u64 (ag:Int)] 41)) (.cells cC 35)).1
  rwa [show(w.alloc (.cells #[.int .i64 (P:Int),.int .i64 (n:Int),.int .i64 (q:Int),.int .i64 (m:Int),.int .u64 (qu:Int),.int .u64 (ag:Int)] 41)).heap.size=w.heap.size+1 by simp] at this
 have HN:Hid (Calls Tryz.prog 18 #[.agg #[.int .i64 (P:Int),.int .i64 (n:Int),.int .i64 (q:Int),.int .i64 (m:Int),.int .u64 (qu:Int),.int .u64 (ag:Int)]] W0 fun e w'=> ∃a,e= .returned (.pointer (some ⟨a.m,0,none⟩))∧pN w w' a P n q 0 (dP P n m qu ag) (fun k=>k=w.heap.size∨k=w.heap.size+1)∧w'.cell? ⟨w.heap.size,0,none⟩=some (.int .i64 (P:Int))∧w'.heap[w.heap.size+1]? =some (.cells cC 35 (0,0))):=by
  refine(fL P n q m qu ag hP hn hq hm hqu hag _ (ht.below hb0)).mono ?_
  rintro e w' ⟨a,lab,he,hi,hl,hb⟩
  refine⟨a,he,⟨⟨lab,hi,fun k hk=> ?_,fun k q=>⟨?_,?_⟩⟩,bt hb0 hb⟩,kc hb k0,(hb.block _ (by omega)).trans kz⟩
  ·have:=hl k hk
   omega
  ·apply Classical.byContradiction
   intro hne
   have:=hl k hne
   omega
  ·have:=hb.size
   omega
 have HD:=aa hdec
 have HW0:=aa hW0
 have hbr:=yq
 clear hb0 k0 ht hdec hP hn hq hm hqu hag hW0 hz0 kz
 go_enter Tryz.func10,Tryz.ntmps10
 go_wp2_with (go_at_call 18;have hw0:=HW0.out;unfold cC at hw0;rw[hw0];refine(HN.out).mono ?_;rintro e w1 ⟨ad,rfl,hA1,c1,z1⟩;have HA1:=aa hA1;have HZ1:=aa z1;clear hA1 z1 HN hw0)
 have h12:w.heap.size+1<w1.heap.size:=by
  obtain⟨⟨lab,hi,h1,h2⟩,hb⟩:=HA1.out
  exact(h2 _ (.inr rfl)).2
 have hin:(Tryz.prog.info? 35).map (·.size)=some cC.size:=by kernel_rfl
 have HIN:=aa hin
 have HA1':Hid (cC.all (·.oneCell')=true):=by show cC.all (·.oneCell')=true;simp[cC,Value.oneCell']
 clear hin
 go_wp2_with (first
  |(go_at_call 19;refine(HD.out w1 HA1.out.eI).mono ?_;rintro e w2 ⟨⟨d,rfl⟩,hb2⟩;have HB2:=aa hb2;have HZ2:=aa ((hb2.block _ h12).trans HZ1.out);clear hb2 HD)
  |(refine wpList_store_row rfl 35 _ _ rfl (w.heap.size+1) cC (by rfl) (by rfl) 35 cC HZ2.out HIN.out rfl HA1'.out ?_))
 have hcz: ∀j:Nat,(w2.setRow (w.heap.size+1) cC).cell? ⟨w.heap.size+1,j,none⟩=cC[j]? :=fun j=>cell_setRow_same w2 _ j cC _ _ (0,0) HZ2.out
 have hlv:=run_loadVar_mid (P:=Tryz.prog) (w2.setRow (w.heap.size+1) cC) (w.heap.size+1) 0 35 cC.toList _ (fun j v hv=>by rw[Nat.zero_add];exact(hcz j).trans (by simpa using hv)) Tryz.underlying35 rfl (by rw[Array.length_toList];exact HIN.out)
 refine bodyPost_ret (v:= .tuple #[.agg cC,.int .i64 3]) ?_ rfl ?_
 ·simp[results,Tryz.f10,asAddr,hlv]
 ·have hB:=bt HA1.out.eI HB2.out
  refine⟨rfl,⟨hB.os,hB.tape,hB.output,?_,fun k hk=>(setRow_other _ _ _ _ (by omega)).trans (hB.block k hk)⟩⟩
  have h2:(w2.setRow (w.heap.size+1) cC).heap.size=w2.heap.size:=by simp[World.setRow]
  rw[h2]
  exact hB.size
end Go.Proofs.YtdbailcdlngemaaGreatDoor
namespace Go.Proofs.YtdbailcdlngemaaGreatDoor
open Go.RowKit Go.Lib Go.Shelf
def ja:List Ex.En:=[Ex.cA [(9,0)],Ex.bV 0 3 (-1),Ex.cM 0 0]
theorem yp:Ex.Rt 1 (Ex.cO [(9,0)]) (Ex.cR [(9,0)]):=by
 refine⟨0,.inr (.inr (.inr ⟨by decide,by decide,?_,.inr rfl,rfl,rfl⟩))⟩
 intro i hi
 match i,hi with
 |0,_=>decide
def Jh (j T:Nat) (M:Mc) (evs:List Ev) (errs:List Int):Prop:=
 (j=0→T=0∧M=dP 1 1 0 1 1∧evs=[]∧errs=[])∧
 (j=1→T=0∧evs=[]∧errs=[0]∧ ∃p,M={dP 1 1 0 1 1 with pr:=[p]})∧
 (j=2→T≤10∧errs=[0,0]∧(∃e:Ev,evs=[e]∧e.k=9)∧Iv 1 1 1 [] M∧M.S 0=1∧(M.pc 0).r= -1)∧
 (j=3→errs=[0,0,0]∧ ∃e d:Ev,evs=[e,d]∧e.k=9∧d.k=3)
theorem Iw:Jh 0 0 (dP 1 1 0 1 1) [] []:=⟨fun _=>⟨rfl,rfl,rfl,rfl⟩,(fun e=>absurd e (by decide)),(fun e=>absurd e (by decide)),(fun e=>absurd e (by decide))⟩
theorem xF (w:World):Steps w 1 1 1 ja Jh:=by
 intro j x hx V ad T M rb evs errs er E a cap hJ hR hp
 match j,hx with
 |0,hx=>
  injection hx with hx
  subst hx
  obtain⟨rfl,rfl,rfl,rfl⟩:=hJ.1 rfl
  refine(hR.Be 0 0 0 a 1 cap 0 0 0 0 0 (by simp) (Ex.cO [(9,0)]) (Ex.cR [(9,0)]) hp yp (by show 0<16;decide)).mono ?_
  intro e w' hC
  exact⟨0,_,[],0,hC,(fun e=>absurd e (by decide)),fun _=>⟨rfl,rfl,rfl,_,rfl⟩,(fun e=>absurd e (by decide)),(fun e=>absurd e (by decide))⟩
 |1,hx=>
  injection hx with hx
  subst hx
  obtain⟨rfl,rfl,rfl,p,rfl⟩:=hJ.2.1 rfl
  have hI0:Iv 1 1 0 [] {dP 1 1 0 1 1 with pr:=[p]}:=(Iv.new 1 1 0 1 1 (by decide) (by decide)).load p
  have hf:db {dP 1 1 0 1 1 with pr:=[p]} 1=some 0:=xK (by decide) (fun y hy=>absurd hy (by omega)) rfl
  have hno:jX {dP 1 1 0 1 1 with pr:=[p]} 0 (-1)=false:=rfl
  obtain⟨⟨kS,kpc,_⟩,_⟩:=qO (q:=1) hI0 (by decide) hf 0 3 (-1) rfl
  refine(hR.zF (T':=0+1+1+1) (c:=0) (l:=[⟨9,0,((0:Nat):Int),0+1,0,0⟩]) (M':=gB 1 1 1 {dP 1 1 0 1 1 with pr:=[p]} 0 0 3 (-1)) 0 0 0 a 0 cap 0 0 0 3 (-1) (fun e he=>⟨9,by decide,by rw[List.mem_singleton.1 he];rfl⟩) (by simp) (fun V' E' hV=>hV.call (R:=fun e w' v=>e= .returned (.tuple #[v,.int .i64 0])) (fun lab hi=>(hi.sR (by decide) (fun x _=>(by decide:0+1<4294967296)) 0 3 (by decide) (-1) hno 0 hf).mono (fun e w' ⟨v,he,hv,hg⟩=>⟨v,he,hv,hg⟩)))).mono ?_
  intro e w' hC
  exact⟨_,_,_,0,hC,(fun e=>absurd e (by decide)),(fun e=>absurd e (by decide)),fun _=>⟨by decide,rfl,⟨_,rfl,rfl⟩,hI0.start (by decide) hf 0 3 (-1) hno,by rw[kS,Gt.aj],by rw[kpc];rfl⟩,(fun e=>absurd e (by decide))⟩
 |2,hx=>
  injection hx with hx
  subst hx
  obtain⟨hT,rfl,⟨e0,rfl,hk0⟩,hI,hS,hr⟩:=hJ.2.2.1 rfl
  obtain⟨O,hpq⟩:=hR.pq
  have hb:=hI.F9 (p:=0) (by decide) (x:=0) (by decide) hS 0
  obtain⟨y,k,hy,hbi,_⟩:=Aq hpq hb
  obtain rfl:y=0:=by omega
  have hk:0<1:=by decide
  have hd:(0:Int)≤((0:Nat):Int)∧((0:Nat):Int)<18446744073709551616:=by decide
  have hbi':bI (gh M.pl) (bb 1 (gh M.pl) ((0:Nat):Int) ((0:Nat):Int))=((0:Nat):Int):=hbi
  refine(hR.CT (T':=T+1+1) (c:=0) (l:=[⟨3,((0:Nat):Int),(M.th 0).p,(M.th 0).g,(bA (bb 1 (gh M.pl) ((0:Nat):Int) ((0:Nat):Int))),0⟩]) (M':=settle (ll 1 1 M 0 0 ((0:Nat):Int)) 1) 0 0 0 a 0 cap 0 0 0 0 0 (fun e he=>⟨3,by decide,by rw[List.mem_singleton.1 he];rfl⟩) (by simp) (fun V' E' hV=>hV.call (R:=fun e w' v=>e= .returned (.tuple #[v,.int .i64 0])) (fun lab hi=>(hi.zR (pr:=0) (T':=T+1) hk ((0:Nat):Int) (by omega) (fun W1 O hs=>xB (P1:=fun V=>SX V' W1 V lab ad 1 1 1 T M V'.heap.size 0 [] O) (hs.sx.rY hk ((0:Nat):Int) hd (.inl hr)) (fun V hV=>hV.nL (by simp) hk ((0:Nat):Int) hd hr hb 0 (by decide) hbi'))).mono (fun e w' ⟨v,he,hev,g⟩=>⟨v,he,hev,g⟩)))).mono ?_
  intro e w' hC
  exact⟨_,_,_,0,hC,(fun e=>absurd e (by decide)),(fun e=>absurd e (by decide)),(fun e=>absurd e (by decide)),fun _=>⟨rfl,_,_,rfl,hk0,rfl⟩⟩
 |j+3,hx=>cases hx
theorem dZ:Ex.gT ja:=by
 intro x hx
 simp only[ja,List.mem_cons,List.not_mem_nil,or_false] at hx
 rcases hx with rfl|rfl|rfl
 ·exact⟨.inr (.inr (.inl ⟨rfl,yp⟩)),⟨by decide,by decide,by decide,by decide⟩⟩
 ·exact⟨.inr (.inr (.inr (.inr ⟨rfl,by decide,by decide,by decide,by decide⟩))),⟨by decide,by decide,by decide,by decide⟩⟩
 ·exact⟨.inl ⟨rfl,by decide,by decide⟩,⟨by decide,by decide,by decide,by decide⟩⟩
def tK (k:Nat):Array Value:= #[.int .i64 3,.int .i64 0,.int .u64 0,.int .i64 0,.slice (some ⟨k,0,none⟩) 1 1,.int .u64 0,.int .u64 0,.int .i64 0,.int .u8 0,.int .i64 0,.int .i64 5,.int .i64 0,.int .u64 0,.int .i64 0,.slice none 0 0,.int .u64 0,.int .u64 0,.int .i64 0,.int .u8 3,.int .i64 (-1),.int .i64 1,.int .i64 0,.int .u64 0,.int .i64 0,.slice none 0 0,.int .u64 0,.int .u64 0,.int .i64 0,.int .u8 0,.int .i64 0]
theorem C9 (w:World) (t:TypeId):Ex.Ib ((w.alloc (.cells #[.int .i64 9,.int .i64 0] 48)).alloc (.cells (tK w.heap.size) t)) (some ⟨w.heap.size+1,0,none⟩) ja:=by
 have hz:(w.alloc (.cells #[.int .i64 9,.int .i64 0] 48)).heap.size=w.heap.size+1:=by simp
 have hb:Below (w.alloc (.cells #[.int .i64 9,.int .i64 0] 48)).heap.size (w.alloc (.cells #[.int .i64 9,.int .i64 0] 48)) ((w.alloc (.cells #[.int .i64 9,.int .i64 0] 48)).alloc (.cells (tK w.heap.size) t)):=(Below.refl _ _).alloc (Nat.le_refl _) _
 have c0:=kc hb (aV w #[.int .i64 9,.int .i64 0] 48 0 _ rfl)
 have c1:=kc hb (aV w #[.int .i64 9,.int .i64 0] 48 1 _ rfl)
 have e: ∀i u,(tK w.heap.size)[i]? =some u→((w.alloc (.cells #[.int .i64 9,.int .i64 0] 48)).alloc (.cells (tK w.heap.size) t)).cell? ⟨w.heap.size+1,i,none⟩=some u:=fun i u h=>by
  have:=aV (w.alloc (.cells #[.int .i64 9,.int .i64 0] 48)) (tK w.heap.size) t i u h
  rwa [hz] at this
 refine .inr ⟨w.heap.size+1,0,rfl,by simp,fun j x hj=> ?_⟩
 match j,hj with
 |0,hj=>
  injection hj with hj
  subst hj
  refine⟨some ⟨w.heap.size,0,none⟩,1,e 0 _ rfl,e 1 _ rfl,e 2 _ rfl,e 3 _ rfl,e 4 _ rfl,e 5 _ rfl,e 6 _ rfl,e 7 _ rfl,e 8 _ rfl,e 9 _ rfl,.inr ⟨w.heap.size,0,rfl,by simp;omega,fun j hj=> ?_⟩,by decide,.inl (by decide),(dZ _ (by simp[ja])).2⟩
  have:j<1:=hj
  obtain rfl:j=0:=by omega
  exact⟨c0,c1⟩
 |1,hj=>
  injection hj with hj
  subst hj
  exact⟨none,0,e 10 _ rfl,e 11 _ rfl,e 12 _ rfl,e 13 _ rfl,e 14 _ rfl,e 15 _ rfl,e 16 _ rfl,e 17 _ rfl,e 18 _ rfl,e 19 _ rfl,.inl rfl,by decide,.inl (by decide),(dZ _ (by simp[ja])).2⟩
 |2,hj=>
  injection hj with hj
  subst hj
  exact⟨none,0,e 20 _ rfl,e 21 _ rfl,e 22 _ rfl,e 23 _ rfl,e 24 _ rfl,e 25 _ rfl,e 26 _ rfl,e 27 _ rfl,e 28 _ rfl,e 29 _ rfl,.inl rfl,by decide,.inl (by decide),(dZ _ (by simp[ja])).2⟩
 |j+3,hj=>cases hj
theorem zi (w:World):Calls Tryz.prog 13 #[] w fun e w'=> ∃v,e= .returned v∧w'.ownsRow w.heap.size 5 1 v (Ex.all ja).length (Ex.dw (Ex.all ja))∧Below w.heap.size w w':=by
 have HE:Hid (Calls Tryz.prog 23 #[.slice (some ⟨w.heap.size+1,0,none⟩) 3 3] ((w.alloc (.cells #[.int .i64 9,.int .i64 0] 48)).alloc (.cells (tK w.heap.size) 79)) fun e w'=> ∃v,e= .returned (.tuple #[v,.int .i64 0])∧w'.ownsRow w.heap.size 5 1 v (Ex.all ja).length (Ex.dw (Ex.all ja))∧Below w.heap.size w w'):=by
  refine(Ex.zA _ _ ja 3 (by decide) (C9 w 79)).mono ?_
  intro e w' h
  obtain⟨v,he,ho,hb⟩:=h.yes (fun x hx=>(dZ x hx).1)
  refine⟨v,he,World.ownsRow.mono ho (by simp;omega),(((Below.refl w.heap.size w).alloc (Nat.le_refl _) _).alloc (by simp) _).trans (hb.mono (by simp;omega))⟩
 unfold tK at HE
 go_enter Tryz.func13,Tryz.ntmps13
 go_wp2_with (go_at_call 23;refine HE.out.mono ?_;rintro e w1 ⟨v1,rfl,ho,hb⟩;have HO:=aa ho;have HB:=aa hb;clear ho hb)
 go_ret
 exact⟨_,rfl,HO.out,HB.out⟩
theorem xf (w:World) (ht:Gt.ju w) (base:Nat) (bv:Value) (hr:w.ownsRow base 5 1 bv (Ex.all ja).length (Ex.dw (Ex.all ja))):
  Calls Tryz.prog 10 #[.agg #[.int .i64 1,.int .i64 1,.int .i64 1,.int .i64 0,.int .u64 1,.int .u64 1],bv] w fun e w'=> ∃g1 c1 g2 c2 f c,e= .returned (.tuple #[.agg (gM (.slice (some ⟨g1,0,none⟩) 2 c1) (.slice (some ⟨g2,0,none⟩) 3 c2) c f),.int .i64 0])∧c 3=1∧w'.cell? ⟨g1,0,none⟩=some (.int .i64 9)∧Below w.heap.size w w':=by
 refine(yU 1 1 1 0 1 1 (by decide) (by decide) (by decide) (by decide) (by decide) (by decide) w ht bv ja (by decide) (fun V hb=> ?_) Jh Iw (xF w)).mono ?_
 ·exact(Ex.Bi V base bv (Ex.all ja) (Ex.cF hr hb) (Ex.vK dZ) (by decide)).mono fun e w' h=>h.pd ⟨dZ,rfl⟩
 ·rintro e w' ⟨ev,er,f,T,M,evs,errs,hJ,he,_,hev,her,hb⟩
  obtain⟨rfl,e0,d0,rfl,hk,hd⟩:=hJ.2.2.2 rfl
  obtain⟨a1,c1,rfl,hc⟩:=hev.cells
  obtain⟨g1,rfl,_,_,hc1⟩:=hc 0 e0 rfl
  rcases her with ⟨_,⟨_,hz⟩|⟨g2,c2,_,rfl,_⟩⟩
  ·cases hz
  ·refine⟨g1,c1,g2,c2,f,_,he,?_,?_,hb⟩
   ·simp[fG,hk,hd]
   ·have:=hc1 0 _ rfl
    simpa [hk] using this
theorem zZ (w:World) (ht:Gt.ju w):Calls Tryz.prog 6 #[] w fun e w'=>e= .returned (.bool true)∧Below w.heap.size w w':=by
 have HH:=aa (zi w)
 have HR:=aa (fun W (hb:Below w.heap.size w W) v h=>xf W (ht.below hb) w.heap.size v h)
 go_enter Tryz.func6,Tryz.ntmps6
 go_wp2_with (first
  |(go_at_call 13;refine HH.out.mono ?_;rintro e w1 ⟨v1,rfl,ho,hb⟩;have HO:=aa ho;have HB:=aa hb;clear ho hb)
  |(go_at_call 10;refine(HR.out _ HB.out _ HO.out).mono ?_;rintro e w2 ⟨g1,c1,g2,c2,f,c,rfl,hc3,hk,hb⟩;unfold gM;have HB2:=aa (HB.out.trans (hb.mono HB.out.size));have hkA:=(fun o:Obj=>kc ((Below.refl w2.heap.size w2).alloc (Nat.le_refl _) o) hk);have hkB:=hkA (.cells #[.slice (some ⟨g1,0,none⟩) 2 c1,.slice (some ⟨g2,0,none⟩) 3 c2,.int .i64 (c 0:Int),.int .i64 (c 1:Int),.int .i64 (c 2:Int),.int .i64 1,.int .i64 (c 4:Int),.int .i64 (c 5:Int),.int .i64 (c 6:Int),.int .i64 (c 7:Int),.int .i64 (c 8:Int),.int .i64 (c 9:Int),.int .i64 (c 10:Int),.int .i64 (c 11:Int),.int .i64 (c 12:Int),.int .i64 (c 13:Int),.int .i64 (c 14:Int),.float .f64 f] 35);clear hb hk hkA))
 go_ret
 exact⟨rfl,HB2.out.alloc HB2.out.size _⟩
theorem Ca (a b c d e f:Int) (w:World):(Instr.build 41 #[(0,.int .i64 a),(1,.int .i64 b),(2,.int .i64 c),(3,.int .i64 d),(4,.int .u64 e),(5,.int .u64 f)]).run Tryz.prog w= .ok (.agg #[.int .i64 a,.int .i64 b,.int .i64 c,.int .i64 d,.int .u64 e,.int .u64 f]) w:=run_build w 41 _ _ (by kernel_rfl)
theorem GX {x:Nat} (h:x<9223372036854775808):IntKind.i64.wrap (x:Int)=(x:Int):=by simp[IntKind.wrap,IntKind.bits,IntKind.signed];omega
theorem Ip {x:Nat} (h:x<18446744073709551616):IntKind.u64.wrap (x:Int)=(x:Int):=by simp[IntKind.wrap,IntKind.bits,IntKind.signed];omega
section
attribute [local go_sem ↓] Go.wp_at_zero Go.wp_at_succ
theorem sC (x0 x1 x2 x3 x4 x5:Nat) (h0:x0<256) (h1:x1<256) (h2:x2<256) (h3:x3<256) (h4:x4<256) (h5:x5<256) (w:World):
  Calls Tryz.prog 11 #[.agg #[.int .u8 (x0:Int),.int .u8 (x1:Int),.int .u8 (x2:Int),.int .u8 (x3:Int),.int .u8 (x4:Int),.int .u8 (x5:Int)]] w fun e w'=>e= .returned (.agg #[.int .i64 ((x0%4+1:Nat):Int),.int .i64 ((x1%8+1:Nat):Int),.int .i64 ((x2%3+1:Nat):Int),.int .i64 ((x3%5:Nat):Int),.int .u64 ((x4%5+1:Nat):Int),.int .u64 ((x5%9+1:Nat):Int)])∧Below w.heap.size w w':=by
 have hbi:=Ca
 have a0:IntKind.i64.wrap (x0:Int)=(x0:Int):=GX (by omega)
 have a1:IntKind.i64.wrap (x1:Int)=(x1:Int):=GX (by omega)
 have a2:IntKind.i64.wrap (x2:Int)=(x2:Int):=GX (by omega)
 have a3:IntKind.i64.wrap (x3:Int)=(x3:Int):=GX (by omega)
 have a4:IntKind.u64.wrap (x4:Int)=(x4:Int):=Ip (by omega)
 have a5:IntKind.u64.wrap (x5:Int)=(x5:Int):=Ip (by omega)
 go_enter Tryz.func11,Tryz.ntmps11
 go_wp2
 simp[bodyPost,results,Tryz.results11,go_sem]
 exact((Below.refl _ _).alloc (Nat.le_refl _) _).alloc (by simp) _
end
theorem Di (b:Nat):Ex.G3 [b]:=by
 intro x t hx hw q
 have hl:1=(Ex.bytes x).length+t.length:=by simpa using congrArg List.length q
 have:2≤(Ex.bytes x).length:=by
  rcases hx with ⟨e,h1,h2⟩|⟨e,h1,h2⟩|⟨e,h1⟩|e|⟨e,h1,h2,h3,h4⟩
  ·rw[e,Ex.dY];simp[Ex.bw]
  ·rw[e,Ex.ed];simp[Ex.bw]
  ·rw[e,Ex.dX];simp only[Ex.gI,List.length_cons,Ex.bx];omega
  ·rw[e,Ex.dA];simp[Ex.bw]
  ·rw[e,Ex.dC];simp
 omega
theorem yT (w V:World) (b:Nat) (hb:b<256) (t:TypeId) (h:Below (w.heap.size+1) (w.alloc (.cells #[.int .u8 (b:Int)] t)) V):
  Calls Tryz.prog 19 #[.slice (some ⟨w.heap.size,0,none⟩) 1 1] V (fun e w'=>(∃d:Int,e= .returned (.tuple #[.slice none 0 0,.int .i64 3,.int .i64 d]))∧Below V.heap.size V w'):=by
 have hz:(w.alloc (.cells #[.int .u8 (b:Int)] t)).heap.size=w.heap.size+1:=by simp
 have hc:=kc (by rw[hz];exact h) (aV w #[.int .u8 (b:Int)] t 0 _ rfl)
 have hs:=h.size
 refine(Ex.rA V w.heap.size 0 1 [b] ⟨by omega,fun j hj=> ?_,by simpa using hb⟩ (by simp) (by simp) (by simp) (by simp)).mono ?_
 ·have:j<1:=hj
  obtain rfl:j=0:=by omega
  exact hc
 ·intro e w' hd
  obtain⟨he,hb⟩:=hd.bad (L:=[]) ⟨fun x hx=>(List.not_mem_nil hx).elim,[b],List.cons_ne_nil _ _,Di b,rfl⟩
  exact⟨⟨_,he⟩,hb⟩
def J0 (j T:Nat) (M:Mc) (evs:List Ev) (errs:List Int):Prop:=evs=[]∧errs=[]
theorem yL (P n q m qu ag:Nat) (hP:1≤P∧P≤64) (hn:1≤n∧n≤1024) (hq:1≤q∧q≤256) (hm:m≤32) (hqu:1≤qu∧qu<18446744073709551616) (hag:1≤ag∧ag<18446744073709551616) (w:World) (ht:Gt.ju w):
  Calls Tryz.prog 10 #[.agg #[.int .i64 (P:Int),.int .i64 (n:Int),.int .i64 (q:Int),.int .i64 (m:Int),.int .u64 (qu:Int),.int .u64 (ag:Int)],.slice none 0 0] w fun e w'=> ∃a1 c1 a2 c2 f c,e= .returned (.tuple #[.agg (gM (.slice a1 0 c1) (.slice a2 0 c2) c f),.int .i64 0])∧ ¬Fl.nO f∧Below w.heap.size w w':=by
 refine(yU P n q m qu ag hP hn hq hm hqu hag w ht (.slice none 0 0) [] (by decide) (fun V hb=>(Ex.mA V none 0).mono fun e w' h=>h.pd ⟨fun x hx=>(List.not_mem_nil hx).elim,rfl⟩) J0 ⟨rfl,rfl⟩ (fun j x hx=>by cases hx)).mono ?_
 rintro e w' ⟨ev,er,f,T,M,evs,errs,⟨rfl,rfl⟩,he,hf,hev,her,hb⟩
 obtain⟨a1,c1,rfl,_⟩:=hev.cells
 rcases her with ⟨_,⟨rfl,_⟩|⟨g2,c2,_,rfl,_⟩⟩
 ·exact⟨a1,c1,none,0,f,_,he,hf,hb⟩
 ·exact⟨a1,c1,_,c2,f,_,he,hf,hb⟩
end Go.Proofs.YtdbailcdlngemaaGreatDoor
namespace Go.Proofs.YtdbailcdlngemaaGreatDoor
open Go.RowKit Go.Lib Go.Shelf
theorem EO (w:World):(zeroValue 35).run Tryz.prog w= .ok (.agg cC) w:=by kernel_rfl
theorem Ds (W:World) (a1 a2:Option Addr) (n1 n2 c1 c2:Nat) (cn:Nat→Nat) (f:Nat):(storeCells ⟨W.heap.size,0,none⟩ (gM (.slice a1 n1 c1) (.slice a2 n2 c2) cn f).toList).run Tryz.prog (W.alloc (.cells cC 35))= .ok () (W.alloc (.cells (gM (.slice a1 n1 c1) (.slice a2 n2 c2) cn f) 35)):=
 run_storeCells_new W 35 cC (gM (.slice a1 n1 c1) (.slice a2 n2 c2) cn f) rfl rfl (by simp[gM,Value.oneCell'])
theorem BB (W:World):(storeCells ⟨W.heap.size,0,none⟩ cC.toList).run Tryz.prog (W.alloc (.cells cC 35))= .ok () (W.alloc (.cells cC 35)):=
 run_storeCells_new W 35 cC cC rfl rfl (by simp[cC,Value.oneCell'])
theorem nS (x0 x1 x2 x3 x4 x5 b:Nat) (h0:x0<256) (h1:x1<256) (h2:x2<256) (h3:x3<256) (h4:x4<256) (h5:x5<256) (hb:b<256) (w:World) (ht:Gt.ju w):
  Calls Tryz.prog 4 #[.agg #[.int .u8 (x0:Int),.int .u8 (x1:Int),.int .u8 (x2:Int),.int .u8 (x3:Int),.int .u8 (x4:Int),.int .u8 (x5:Int)],.int .u8 (b:Int)] w fun e w'=>e= .returned (.bool true)∧Below w.heap.size w w':=by
 obtain⟨W0,hW0⟩: ∃W0,w.alloc (.cells #[.int .u8 (x0:Int),.int .u8 (x1:Int),.int .u8 (x2:Int),.int .u8 (x3:Int),.int .u8 (x4:Int),.int .u8 (x5:Int)] 30)=W0:=⟨_,rfl⟩
 have hb0:Below w.heap.size w W0:=by rw[←hW0];exact(Below.refl _ _).alloc (Nat.le_refl _) _
 have HS:Hid (∀V,Below W0.heap.size W0 V→V.cell? ⟨w.heap.size,0,none⟩=some (.int .u8 (x0:Int))∧V.cell? ⟨w.heap.size,1,none⟩=some (.int .u8 (x1:Int))∧V.cell? ⟨w.heap.size,2,none⟩=some (.int .u8 (x2:Int))∧V.cell? ⟨w.heap.size,3,none⟩=some (.int .u8 (x3:Int))∧V.cell? ⟨w.heap.size,4,none⟩=some (.int .u8 (x4:Int))∧V.cell? ⟨w.heap.size,5,none⟩=some (.int .u8 (x5:Int))):=fun V hb=>by
  rw[←hW0] at hb
  exact⟨kc hb (aV w _ _ 0 _ rfl),kc hb (aV w _ _ 1 _ rfl),kc hb (aV w _ _ 2 _ rfl),kc hb (aV w _ _ 3 _ rfl),kc hb (aV w _ _ 4 _ rfl),kc hb (aV w _ _ 5 _ rfl)⟩
 have HC:Hid (∀V,Below W0.heap.size W0 V→Calls Tryz.prog 11 #[.agg #[.int .u8 (x0:Int),.int .u8 (x1:Int),.int .u8 (x2:Int),.int .u8 (x3:Int),.int .u8 (x4:Int),.int .u8 (x5:Int)]] V fun e w'=>e= .returned (.agg #[.int .i64 ((x0%4+1:Nat):Int),.int .i64 ((x1%8+1:Nat):Int),.int .i64 ((x2%3+1:Nat):Int),.int .i64 ((x3%5:Nat):Int),.int .u64 ((x4%5+1:Nat):Int),.int .u64 ((x5%9+1:Nat):Int)])∧Below W0.heap.size W0 w'∧Below V.heap.size V w'):=fun V hb=>(sC x0 x1 x2 x3 x4 x5 h0 h1 h2 h3 h4 h5 V).mono (fun e w' ⟨he,hb'⟩=>⟨he,bt hb hb',hb'⟩)
 have HL:=aa (fun V (hb:Below W0.heap.size W0 V)=>zZ V (ht.below (bt hb0 hb)))
 obtain⟨P,hP,hPe⟩: ∃P,P≤4∧x0%4+1=P:=⟨_,by omega,rfl⟩
 have p1:1≤P:=by omega
 obtain⟨n,hn,hne⟩: ∃n,n≤8∧x1%8+1=n:=⟨_,by omega,rfl⟩
 have n1:1≤n:=by omega
 obtain⟨q,hq,hqe⟩: ∃q,q≤3∧x2%3+1=q:=⟨_,by omega,rfl⟩
 have q1:1≤q:=by omega
 obtain⟨m,hm,hme⟩: ∃m,m≤32∧x3%5=m:=⟨_,by omega,rfl⟩
 obtain⟨qu,hqu,hque⟩: ∃qu,qu≤5∧x4%5+1=qu:=⟨_,by omega,rfl⟩
 have qu1:1≤qu:=by omega
 obtain⟨ag,hag,hage⟩: ∃ag,ag≤9∧x5%9+1=ag:=⟨_,by omega,rfl⟩
 have ag1:1≤ag:=by omega
 rw[hPe,hne,hqe,hme,hque,hage] at HC
 have HN:=aa (fun V (hb:Below W0.heap.size W0 V)=>yL P n q m qu ag ⟨p1,by omega⟩ ⟨n1,by omega⟩ ⟨q1,by omega⟩ hm ⟨qu1,by omega⟩ ⟨ag1,by omega⟩ V (ht.below (bt hb0 hb)))
 have HJ:=aa (fun V (hV:Below W0.heap.size W0 V) (t:TypeId) V2 (h2:Below (V.heap.size+1) (V.alloc (.cells #[.int .u8 (b:Int)] t)) V2)=>BN P n q m qu ag ⟨p1,by omega⟩ ⟨n1,by omega⟩ ⟨q1,by omega⟩ hm ⟨qu1,by omega⟩ ⟨ag1,by omega⟩ V2 (ht.below ((bt hb0 (hV.alloc hV.size _)).trans (h2.mono (by have:=hV.size;have:=hb0.size;omega)))) (.slice (some ⟨V.heap.size,0,none⟩) 1 1) (fun U hU=>yT V U b hb t (h2.trans (hU.mono (by have:=h2.size;simp at this;omega)))))
 have HW0:=aa hW0
 have HB0:=aa hb0
 clear hPe hne hqe hme hque hage h0 h1 h2 h3 h4 h5 hP hn hq hm hqu hag p1 n1 q1 qu1 ag1 hW0 hb0 ht
 go_enter Tryz.func4,Tryz.ntmps4
 have hzr:=EO
 have hsz:=BB
 go_upto_region 2 with (first
  |(go_at_call 10;refine(HN.out _ HB1.out).mono ?_;rintro e w2 ⟨a1,c1,a2,c2,f,c,rfl,hf,hb2⟩;have HB2:=aa (bt HB1.out hb2);have HF:=aa hf;have hsr:=Ds w2 a1 a2 0 0 c1 c2 c f;clear hb2 hf HN)
  |(go_at_call 11;rw[HW0.out];refine(HC.out _ (Below.refl _ _)).mono ?_;rintro e w1 ⟨rfl,hb1,_⟩;have HB1:=aa hb1;clear hb1))
 have HR:=aa (And.intro (aV w2 (gM (.slice a1 0 c1) (.slice a2 0 c2) c f) 35 0 (.slice a1 0 c1) rfl) (And.intro (aV w2 (gM (.slice a1 0 c1) (.slice a2 0 c2) c f) 35 1 (.slice a2 0 c2) rfl) (aV w2 (gM (.slice a1 0 c1) (.slice a2 0 c2) c f) 35 17 (.float .f64 f) rfl)))
 have HB3:=aa (HB2.out.alloc HB2.out.size (.cells (gM (.slice a1 0 c1) (.slice a2 0 c2) c f) 35))
 clear hsr
 generalize w2.alloc (.cells (gM (.slice a1 0 c1) (.slice a2 0 c2) c f) 35)=W3 at*
 generalize Value.agg (gM (.slice a1 0 c1) (.slice a2 0 c2) c f)=ra
 obtain⟨s0,s1,s2,s3,s4,s5⟩:=HS.out _ HB3.out
 go_upto_region 3 with (first
  |(go_at_call 10;refine(HJ.out _ HB4.out _ _ (Below.refl _ _)).mono ?_;rintro e w5 ⟨rfl,hb5⟩;have HB5:=aa (bt (HB4.out.alloc HB4.out.size _) hb5);have HY5:=aa (bt (HX4.out.alloc HX4.out.size _) hb5);clear hb5 HJ)
  |(go_at_call 11;refine(HC.out _ HB3.out).mono ?_;rintro e w4 ⟨rfl,hb4,hx4⟩;have HB4:=aa hb4;have HX4:=aa hx4;clear hb4 hx4 HC))
 have HB6:=aa (HB5.out.alloc HB5.out.size (.cells cC 35))
 have HY6:=aa (HY5.out.alloc HY5.out.size (.cells cC 35))
 generalize w5.alloc (.cells cC 35)=W6 at*
 generalize Value.agg cC=rz
 have hn1:(FloatKind.f64.format.order f f !=some .eq)=true:=by rw[Fl.mO f f HF.out];rfl
 go_wp2_with (go_at_call 6;refine(HL.out _ HB6.out).mono ?_;rintro e w7 ⟨rfl,hb7⟩;have HB7:=aa (bt HB6.out hb7);have hy7:=bt HY6.out hb7;have r0:=kc hy7 HR.out.1;have r1:=kc hy7 HR.out.2.1;have r2:=kc hy7 HR.out.2.2;clear hb7 hy7)
 go_ret
 exact⟨rfl,bt HB0.out HB7.out⟩
end Go.Proofs.YtdbailcdlngemaaGreatDoor
namespace Go.Proofs.YtdbailcdlngemaaGreatDoor
open Go.RowKit Go.Lib Go.Deep Go.ChangeShapes Go.WideShapes
theorem E8 {z:Int} (h:(Lit.int .u8 z).wf=true): ∃n:Nat,z=n∧n<256:=by
 simp[Lit.wf,IntKind.min,IntKind.max,IntKind.bits,IntKind.signed] at h
 exact⟨z.toNat,by omega,by omega⟩
section
variable {H:Type} {enc:TypeId×Value→H} {w:World} {base:Nat} {spare:Nat→Bool} {held:Bool}
theorem Dl:Tryz.prog.cellsOf 30=6:=by kernel_rfl
theorem iH:Tryz.prog.cellsOf 5=1:=by kernel_rfl
theorem yr {fuel:Nat} {c0 c1 c2 c3 c4 c5:Value} {x:DataW H×List MemPlace} (h:DataW.trod enc Tryz.prog w base spare held fuel 30 [c0,c1,c2,c3,c4,c5]=some x):
  ∃(n0 n1 n2 n3 n4 n5:Nat),c0= .int .u8 (n0:Int)∧c1= .int .u8 (n1:Int)∧c2= .int .u8 (n2:Int)∧c3= .int .u8 (n3:Int)∧c4= .int .u8 (n4:Int)∧c5= .int .u8 (n5:Int)∧n0<256∧n1<256∧n2<256∧n3<256∧n4<256∧n5<256:=by
 obtain⟨xs,n,_,_,_,hl,hf⟩:=DataW.trod_struct Tryz.underlying30 h
 match xs,hl with
 |[y0,y1,y2,y3,y4,y5],_=>
  obtain⟨z0,e0,_,w0⟩:=DataW.trod_int Tryz.underlying5 (by simpa [iH] using hf 0 _ rfl)
  obtain⟨z1,e1,_,w1⟩:=DataW.trod_int Tryz.underlying5 (by simpa [iH] using hf 1 _ rfl)
  obtain⟨z2,e2,_,w2⟩:=DataW.trod_int Tryz.underlying5 (by simpa [iH] using hf 2 _ rfl)
  obtain⟨z3,e3,_,w3⟩:=DataW.trod_int Tryz.underlying5 (by simpa [iH] using hf 3 _ rfl)
  obtain⟨z4,e4,_,w4⟩:=DataW.trod_int Tryz.underlying5 (by simpa [iH] using hf 4 _ rfl)
  obtain⟨z5,e5,_,w5⟩:=DataW.trod_int Tryz.underlying5 (by simpa [iH] using hf 5 _ rfl)
  simp at e0 e1 e2 e3 e4 e5
  obtain⟨n0,rfl,q0⟩:=E8 w0
  obtain⟨n1,rfl,q1⟩:=E8 w1
  obtain⟨n2,rfl,q2⟩:=E8 w2
  obtain⟨n3,rfl,q3⟩:=E8 w3
  obtain⟨n4,rfl,q4⟩:=E8 w4
  obtain⟨n5,rfl,q5⟩:=E8 w5
  exact⟨n0,n1,n2,n3,n4,n5,e0,e1,e2,e3,e4,e5,q0,q1,q2,q3,q4,q5⟩
theorem CR {r:Reach} {b0:Nat} {v:Value} {d:DataW H} {p:List MemPlace} (hv:Value.okWide Tryz.prog w r b0 30 v) (h:DataW.Trod enc Tryz.prog w base spare held 30 v d p):
  ∃(n0 n1 n2 n3 n4 n5:Nat),v= .agg #[.int .u8 (n0:Int),.int .u8 (n1:Int),.int .u8 (n2:Int),.int .u8 (n3:Int),.int .u8 (n4:Int),.int .u8 (n5:Int)]∧n0<256∧n1<256∧n2<256∧n3<256∧n4<256∧n5<256:=by
 obtain⟨cs,rfl,hsz⟩:=okWide_struct Tryz.underlying30 hv
 rw[Dl] at hsz
 obtain⟨l⟩:=cs
 match l,hsz with
 |[c0,c1,c2,c3,c4,c5],_=>
  obtain⟨fuel,hf⟩:=h
  obtain⟨n0,n1,n2,n3,n4,n5,rfl,rfl,rfl,rfl,rfl,rfl,q⟩:=yr (c0:=c0) (c1:=c1) (c2:=c2) (c3:=c3) (c4:=c4) (c5:=c5) (by simpa [Value.cells] using hf)
  exact⟨n0,n1,n2,n3,n4,n5,rfl,q⟩
end
end Go.Proofs.YtdbailcdlngemaaGreatDoor
namespace Go.Proofs.YtdbailcdlngemaaGreatDoor.Fl
open Go.RowKit Go.Lib
theorem DD:(Tryz.prog.info? 25).map (fun i=>(i.zero,i.size,i.bytes))=some (some (.float .f64 0),1,8):=by kernel_rfl
theorem aa {p:Prop} (h:p):Hid p:=h
def DU (zs:List Nat):List Value:=zs.map (fun z=> .float .f64 z)
def ux (D:Nat→Nat×Nat) (zs:List Nat):Prop:= ∀j r,zs[j]? =some r→BA (D j).1 (D j).2 r
theorem ux.snoc {D:Nat→Nat×Nat} {zs:List Nat} (h:ux D zs) {r:Nat} (hr:BA (D zs.length).1 (D zs.length).2 r):ux D (zs++[r]):=fun j x hx=>by
 rcases Nat.lt_or_ge j zs.length with q|q
 ·rw[List.getElem?_append_left q] at hx
  exact h j x hx
 ·rw[List.getElem?_append_right q] at hx
  cases hj:j-zs.length with
  |zero=>
   rw[hj] at hx
   injection hx with hx
   subst hx
   obtain rfl:j=zs.length:=by omega
   exact hr
  |succ k=>rw[hj] at hx;cases hx
theorem ux.lt {D:Nat→Nat×Nat} {zs:List Nat} (h:ux D zs): ∀y∈zs,y<18446744073709551616:=fun y hy=>by
 obtain⟨j,hj⟩:=List.getElem?_of_mem hy
 exact(h j y hj).1
theorem ux.sum {D:Nat→Nat×Nat} {zs ys:List Nat} (h:ux D zs) (h':ux D ys) (hl:zs.length=ys.length):dL zs=dL ys:=by
 rw[AY,AY]
 congr 1
 apply List.ext_getElem?
 intro j
 rw[List.getElem?_map,List.getElem?_map]
 cases hz:zs[j]? with
 |none=>
  have:ys[j]? =none:=by rw[List.getElem?_eq_none_iff] at hz⊢;omega
  rw[this]
 |some r=>
  cases hy:ys[j]? with
  |none=>
   rw[List.getElem?_eq_none_iff] at hy
   have:=(List.getElem?_eq_some_iff.1 hz).1
   omega
  |some r'=>
   show some (cj r)=some (cj r')
   rw[(h j r hz).Dy,(h' j r' hy).Dy]
theorem yH {w:World} {base:Nat} {g:Nat} {len cap:Nat} {zs:List Nat} (h:w.ownsRow base 25 1 (.slice (some ⟨g,0,none⟩) len cap) zs.length (DU zs)): ∀i,i<zs.length→w.cell? ⟨g,0+i,none⟩=some (.float .f64 (zs.getD i 0)):=fun i hi=>by
 obtain⟨_,⟨h1,_⟩|⟨g',c',cur,h1,_,hg,_,_,_,ht⟩⟩:=h
 ·cases h1
 ·injection h1 with h1
  injection h1 with h1
  injection h1 with h1
  subst h1
  have hu:(DU zs)[i]? =some (.float .f64 (zs.getD i 0)):=by simp[DU,List.getD,List.getElem?_eq_getElem hi]
  rw[←ht,List.getElem?_take] at hu
  split at hu
  ·rw[Nat.zero_add]
   simp only[World.cell?,hg]
   simpa using hu
  ·cases hu
theorem xb (w:World) (v:Value) (t:TypeId): ∀j u,[v][j]? =some u→(w.alloc (.cells #[v] t)).cell? ((⟨w.heap.size,0,none⟩:Addr).add j)=some u:=fun j u h=>by
 have hadd:(⟨w.heap.size,0,none⟩:Addr).add j=⟨w.heap.size,j,none⟩:=by unfold Addr.add;split<;>simp_all
 rw[hadd]
 exact aV w #[v] t j u (by simpa using h)
theorem wz (w:World) (lb off len cap:Nat) (D:Nat→Nat×Nat) (hlb:lb<w.heap.size) (h0:1≤len) (hl:len≤100)
  (hc: ∀j,j<len→w.cell? ⟨lb,off+j*2,none⟩=some (.int .u64 ((D j).1:Int))∧w.cell? ⟨lb,off+j*2+1,none⟩=some (.int .u64 ((D j).2:Int))) (s:Nat)
  (hs: ∀zs,ux D zs→zs.length=len→ ∃r,floatBits .quo .f64 (dL zs) (floatOfInt .f64 (zs.length:Int))=some r∧floatBits .mul .f64 r (floatOfInt .f64 (zs.length:Int))=some s):
  Calls Tryz.prog 9 #[.slice (some ⟨lb,off,none⟩) len cap] w fun e w'=>e= .returned (.float .f64 s)∧Below w.heap.size w w':=by
 have HC:=aa hc
 have HS:=aa hs
 have hne:((len:Int)==0)=false:=by rw[beq_eq_false_iff_ne];omega
 obtain⟨i0,hi,hz0,hz1,hz2⟩:=Cb.info_parts DD
 clear hc hs
 go_enter Tryz.func9,Tryz.ntmps9
 go_wp2
 go_loopw [3,4] (fun sv iv wr=> ∃(j:Nat) (zs:List Nat),j≤len∧iv= .int .i64 (j:Int)∧zs.length=j∧ux D zs∧wr.ownsRow w.heap.size 25 1 sv zs.length (DU zs)∧Below w.heap.size w wr) (fun _ iv _=>len-(RowKit.intOf iv).toNat)
 case atStart=>exact⟨0,[],by omega,rfl,rfl,(fun j r h=>by cases h),World.ownsRow_nil _ _ _ _,Below.refl _ _⟩
 case round=>
  obtain⟨j,zs,hj,rfl,hzl,hsh,hown,hbel⟩:=hrel
  obtain⟨va,vc,rfl⟩:=Cb.aH hown
  by_cases hjl:j<len
  ·have hjl':(j:Int)<(len:Int):=by omega
   obtain⟨k0,k1⟩:=HC.out j hjl
   have y0:=(hbel.cell (p:=⟨lb,off+j*2,none⟩) hlb).trans k0
   have y1:=(hbel.cell (p:=⟨lb,off+j*2+1,none⟩) hlb).trans k1
   have HO:=aa hown
   have HB:=aa hbel
   have HSH:=aa hsh
   have HZL:=aa hzl
   have hsz:=hbel.size
   have hz100:zs.length≤100:=by omega
   have K0:=aa k0
   have K1:=aa k1
   clear hown hbel k0 k1 hsh hzl
   generalize hd1:(D j).1=d1 at*
   generalize hd2:(D j).2=d2 at*
   have HD1:=aa hd1
   have HD2:=aa hd2
   clear hd1 hd2
   go_wp2
   go_region_held3 (fun w'=>w'.cell? ⟨lb,off+j*2,none⟩=some (.int .u64 (d1:Int))∧w'.cell? ⟨lb,off+j*2+1,none⟩=some (.int .u64 (d2:Int)))
    (first|exact⟨y0,y1⟩|exact HK1.out|exact HK2.out|exact HK3.out|go_keep)
    (first
     |(go_at_call 16;refine(tF d1 d2 _).mono ?_;rintro e w1 ⟨r,rfl,hr,hb⟩;have HR:=aa hr;have HO1:=aa (Ex.cF (show wr.drew.ownsRow w.heap.size 25 1 (.slice va zs.length vc) zs.length (DU zs) from HO.out) hb);have HB1:=aa ((show Below w.heap.size w wr.drew from HB.out.drew).trans (hb.mono hsz));have HK1:=aa (And.intro ((hb.cell (p:=⟨lb,off+j*2,none⟩) (Nat.lt_of_lt_of_le hlb hsz)).trans y0) ((hb.cell (p:=⟨lb,off+j*2+1,none⟩) (Nat.lt_of_lt_of_le hlb hsz)).trans y1));have hs1:=HB1.out.size;clear hr hb)
     |(refine Cb.aK _ (by rfl) _ _ _ (by rfl) w.heap.size 25 i0 (.float .f64 0) 1 8 Tryz.underlying63 hi hz0 hz1 hz2 rfl (by omega) (.slice va zs.length vc) zs.length (DU zs) (by rfl) (World.ownsRow.alloc HO1.out _) ⟨w1.heap.size,0,none⟩ 1 1 [.float .f64 r] (by rfl) rfl (xb w1 _ _) (by simp[Value.oneCell']) (by unfold maxLen;omega) (by omega) (by simp;omega) ?_;intro v3 w3 ho3 hg3;obtain⟨va3,vc3,rfl⟩:=Cb.aH ho3;have HO3:=aa ho3;have HB3:=aa ((HB1.out.alloc hs1 _).grown hg3 (by simp;omega) (fun k hk=>(HO1.out.lt k hk).1));have HK3:=aa (And.intro ((HB3.out.cell (p:=⟨lb,off+j*2,none⟩) hlb).trans K0.out) ((HB3.out.cell (p:=⟨lb,off+j*2+1,none⟩) hlb).trans K1.out));clear ho3 hg3))
   go_wp2
   refine⟨⟨j+1,zs++[r],by omega,by go_num,by rw[List.length_append,HZL.out];rfl,HSH.out.snoc (by rw[HZL.out,HD1.out,HD2.out];exact HR.out),?_,HB3.out⟩,by simp[RowKit.intOf];omega⟩
   have e:DU (zs++[r])=DU zs++[.float .f64 r]:=List.map_append
   rw[List.length_append,e]
   exact HO3.out
  ·obtain rfl:j=len:=by omega
   have hjl': ¬(j:Int)<(j:Int):=by omega
   subst hzl
   obtain⟨r,q1,q2⟩:=HS.out zs hsh rfl
   rcases hown.2 with ⟨_,q⟩|⟨g,c',cur,q,_⟩
   ·omega
   injection q with q
   subst q
   have HC2:=aa (yH hown)
   have HX:=aa hsh.lt
   have HL2:Hid (zs.length≤200):=(show zs.length≤200 by omega)
   have HQ:=aa q1
   have hmul: ∀w,(binOp .mul 25 (.float .f64 r) (.float .f64 (floatOfInt .f64 (zs.length:Int)))).run Tryz.prog w= .ok (.float .f64 s) w:=fun w=>run_float_arith w .mul 25 .f64 _ _ _ q2
   have HB:=aa hbel
   clear hown hbel HS HC hsh q1 q2
   go_wp2_with (go_at_call 17;refine(yd g 0 _ zs r _ HL2.out h0 HX.out HC2.out HQ).mono ?_;rintro e w1 ⟨rfl,rfl⟩)
   go_ret
   exact⟨rfl,HB.out⟩
theorem Ah (w:World) (lb off len cap:Nat) (D:Nat→Nat×Nat) (hlb:lb<w.heap.size) (h0:1≤len) (hl:len≤100)
  (hc: ∀j,j<len→w.cell? ⟨lb,off+j*2,none⟩=some (.int .u64 ((D j).1:Int))∧w.cell? ⟨lb,off+j*2+1,none⟩=some (.int .u64 ((D j).2:Int))) (s:Nat)
  (hs: ∀zs,ux D zs→zs.length=len→ ∃r,floatBits .quo .f64 (dL zs) (floatOfInt .f64 (zs.length:Int))=some r∧floatBits .mul .f64 r (floatOfInt .f64 (zs.length:Int))=some s):
  Calls Tryz.prog 8 #[.slice (some ⟨lb,off,none⟩) len cap] w fun e w'=>e= .returned (.float .f64 s)∧Below w.heap.size w w':=by
 have HC:=aa hc
 have HS:=aa hs
 have hne:((len:Int)==0)=false:=by rw[beq_eq_false_iff_ne];omega
 have hlen0: ¬(len:Int)<0:=by omega
 obtain⟨i0,hi,hz0,hz1,hz2⟩:=Cb.info_parts DD
 have hmk: ∀w,(Instr.makeSlice 63 (.int .i64 (len:Int)) (.int .i64 (len:Int))).run Tryz.prog w= .ok (.slice (some ⟨w.heap.size,0,none⟩) len len) (w.alloc (.cells (madeCells (Value.float .f64 0).cells (len*1)) 25)):=by
  intro w
  have:=run_make w 63 25 i0 (.float .f64 0) Tryz.underlying63 hi hz0 .i64 .i64 (len:Int) (len:Int) (by omega) (by omega) (by rw[hz2];omega) (by omega)
  rw[hz1,show(len:Int).toNat=len by omega] at this
  exact this
 obtain⟨mc,hmc⟩: ∃mc,madeCells (Value.float .f64 0).cells (len*1)=mc:=⟨_,rfl⟩
 rw[hmc] at hmk
 have hma: ∀i,i<len→mc[i]? =some (.float .f64 0):=fun i hi=>by
  rw[←hmc]
  simp[madeCells,hi,Value.cells,Nat.mod_one]
 have HMA:=aa hma
 clear hc hs hma hmc
 go_enter Tryz.func8,Tryz.ntmps8
 go_wp2
 go_loopw [14] (fun iv wr=> ∃(j:Nat) (Z:Nat→Nat),j≤len∧iv= .int .i64 (j:Int)∧(∀i,i<j→BA (D i).1 (D i).2 (Z i))∧(∀i,i<len→wr.cell? ⟨w.heap.size,i,none⟩=some (.float .f64 (Z i)))∧(∀o,wr.frozen? ⟨w.heap.size,o,none⟩=false)∧Below w.heap.size w wr) (fun iv _=>len-(RowKit.intOf iv).toNat)
 case atStart=>exact⟨0,fun _=>0,by omega,rfl,fun i h=>by omega,fun i h=>aV _ _ _ i _ (HMA.out i h),fun o=>World.frozen?_alloc_new _ _ _ _,(Below.refl _ _).alloc (Nat.le_refl _) _⟩
 case round=>
  obtain⟨j,Z,hj,rfl,hsh,hz,hfz,hbel⟩:=hrel
  have hgl:w.heap.size<wr.heap.size:=World.block_lt_of_cell? wr _ (hz 0 (by omega))
  by_cases hjl:j<len
  ·have hjl':(j:Int)<(len:Int):=by omega
   obtain⟨k0,k1⟩:=HC.out j hjl
   have y0:=(hbel.cell (p:=⟨lb,off+j*2,none⟩) hlb).trans k0
   have y1:=(hbel.cell (p:=⟨lb,off+j*2+1,none⟩) hlb).trans k1
   have HZ:=aa hz
   have HF:=aa hfz
   have HB:=aa hbel
   have HSH:=aa hsh
   have hsz:=hbel.size
   generalize hd1:(D j).1=d1 at*
   generalize hd2:(D j).2=d2 at*
   have HD1:=aa hd1
   have HD2:=aa hd2
   clear hz hfz hbel k0 k1 hsh hd1 hd2
   go_wp2_with (go_at_call 14;refine(oT d1 d2 _).mono ?_;rintro e w1 ⟨r,rfl,hr,hb⟩;have hb2:Below wr.heap.size wr w1:=((Below.refl wr.heap.size wr).alloc (Nat.le_refl _) _).trans (hb.mono (by simp));have HR:=aa hr;have HB2:=aa hb2;have hc2:=(hb2.cell (p:=⟨w.heap.size,j,none⟩) hgl).trans (HZ.out j hjl);have hf2:=(World.frozen?_of_block (a:=⟨w.heap.size,j,none⟩) (hb2.block _ hgl)).trans (HF.out j);clear hr hb hb2)
   refine⟨⟨j+1,fun i=>if i=j then r else Z i,by omega,by go_num,fun i hi=> ?_,fun i hi=> ?_,fun o=> ?_,?_⟩,by simp[RowKit.intOf];omega⟩
   ·show BA (D i).1 (D i).2 (if i=j then r else Z i)
    by_cases e:i=j
    ·rw[if_pos e,e,HD1.out,HD2.out]
     exact HR.out
    ·rw[if_neg e]
     exact HSH.out i (by omega)
   ·show _=some (Value.float .f64 (if i=j then r else Z i))
    by_cases e:i=j
    ·rw[if_pos e,e]
     exact Gt.au _ _ _ _ hc2
    ·rw[if_neg e]
     exact(aw _ (by omega)).trans ((HB2.out.cell (p:=⟨w.heap.size,i,none⟩) hgl).trans (HZ.out i hi))
   ·rw[aM]
    exact(World.frozen?_of_block (a:=⟨w.heap.size,o,none⟩) (HB2.out.block _ hgl)).trans (HF.out o)
   ·exact gK (HB.out.trans (HB2.out.mono hsz)) (Nat.le_refl _) _
  ·have hjl': ¬(j:Int)<(len:Int):=by omega
   obtain⟨zs,hzs⟩: ∃zs,(List.range len).map Z=zs:=⟨_,rfl⟩
   have hzl:zs.length=len:=by rw[←hzs];simp
   have hza: ∀i,i<len→zs[i]? =some (Z i):=fun i hi=>by rw[←hzs];simp[hi]
   have hS:ux D zs:=fun i r hr=>by
    have hi:i<len:=by rw[←hzl];exact(List.getElem?_eq_some_iff.1 hr).1
    rw[hza i hi] at hr
    injection hr with hr
    rw[←hr]
    exact hsh i (by omega)
   obtain⟨r,q1,q2⟩:=HS.out zs hS hzl
   have hcz: ∀i,i<zs.length→wr.cell? ⟨w.heap.size,0+i,none⟩=some (.float .f64 (zs.getD i 0)):=fun i hi=>by
    rw[Nat.zero_add,hz i (by omega),List.getD,hza i (by omega)]
    rfl
   have HM:Hid (Calls Tryz.prog 15 #[.slice (some ⟨w.heap.size,0,none⟩) len len] wr fun e w'=>e= .returned (.float .f64 r)∧w'=wr):=by
    have:=Dp w.heap.size 0 len zs r wr (by omega) (by omega) hS.lt hcz (aa q1)
    rw[hzl] at this
    exact this
   rw[hzl] at q2
   have hmul: ∀w,(binOp .mul 25 (.float .f64 r) (.float .f64 (floatOfInt .f64 (len:Int)))).run Tryz.prog w= .ok (.float .f64 s) w:=fun w=>run_float_arith w .mul 25 .f64 _ _ _ q2
   have HB:=aa hbel
   clear hbel HS HC hsh q1 q2 hz hfz hza hS hcz hzl hzs
   go_wp2_with (go_at_call 15;refine(HM.out).mono ?_;rintro e w1 ⟨rfl,rfl⟩)
   go_ret
   exact⟨rfl,HB.out⟩
end Go.Proofs.YtdbailcdlngemaaGreatDoor.Fl
namespace Go.Proofs.YtdbailcdlngemaaGreatDoor
open Go.RowKit Go.Lib Go.Shelf
theorem ti (w:World) (a:Option Addr) (cap:Nat):Calls Tryz.prog 8 #[.slice a 0 cap] w fun e w'=>e= .returned (.float .f64 0)∧w'=w:=by
 go_enter Tryz.func8,Tryz.ntmps8
 go_wp2
 go_ret
 exact⟨rfl,rfl⟩
theorem qw (w:World) (a:Option Addr) (cap:Nat):Calls Tryz.prog 9 #[.slice a 0 cap] w fun e w'=>e= .returned (.float .f64 0)∧w'=w:=by
 go_enter Tryz.func9,Tryz.ntmps9
 go_wp2
 go_ret
 exact⟨rfl,rfl⟩
theorem qT {P:Program} {f:FuncId} {args:Array Value} {w:World} {R:Ending→World→Prop} (h:Calls P f args w R): ∃e w',R e w':=by
 obtain⟨e,w',_,hr,_⟩:=h []
 exact⟨e,w',hr⟩
theorem nB (w:World) (a:Option Addr) (len cap:Nat) (D:Nat→Nat×Nat) (hd:Fl.qt w a len D) (hl:len≤100): ∃s,Fl.nO s∧ ∀V,Below w.heap.size w V→(Calls Tryz.prog 8 #[.slice a len cap] V fun e w'=>e= .returned (.float .f64 s)∧Below V.heap.size V w')∧(Calls Tryz.prog 9 #[.slice a len cap] V fun e w'=>e= .returned (.float .f64 s)∧Below V.heap.size V w'):=by
 by_cases h0:len=0
 ·subst h0
  refine⟨0,Fl.ya,fun V hb=>⟨(ti V a cap).mono ?_,(qw V a cap).mono ?_⟩⟩
  ·rintro e w' ⟨rfl,rfl⟩
   exact⟨rfl,Below.refl _ _⟩
  ·rintro e w' ⟨rfl,rfl⟩
   exact⟨rfl,Below.refl _ _⟩
 ·-- one row of shares
  have hex: ∀j:Nat,∃r,Fl.BA (D j).1 (D j).2 r:=fun j=>by
   obtain⟨e,w',r,_,hr,_⟩:=qT (Fl.oT (D j).1 (D j).2 w)
   exact⟨r,hr⟩
  obtain⟨Z,hZ⟩:=Classical.axiomOfChoice hex
  have hS:Fl.ux D ((List.range len).map Z):=fun j r hr=>by
   have hj:j<len:=by have:=(List.getElem?_eq_some_iff.1 hr).1;simpa using this
   simp[hj] at hr
   rw[←hr]
   exact hZ j
  obtain⟨r,s,e1,e2,hs⟩:=Fl.Gk ((List.range len).map Z) (by simp;omega) (by simp;omega) hS.lt
  have hall: ∀zs,Fl.ux D zs→zs.length=len→ ∃r,floatBits .quo .f64 (Fl.dL zs) (floatOfInt .f64 (zs.length:Int))=some r∧floatBits .mul .f64 r (floatOfInt .f64 (zs.length:Int))=some s:=fun zs hz hzl=>by
   have e3:=hz.sum hS (by simp[hzl])
   rw[e3,hzl]
   simp at e1 e2
   exact⟨r,e1,e2⟩
  rcases hd with q|⟨lb,off,rfl,hlb,hc⟩
  ·exact absurd q h0
  ·refine⟨s,hs,fun V hb=> ?_⟩
   have hlV:lb<V.heap.size:=Nat.lt_of_lt_of_le hlb hb.size
   have hcV: ∀j,j<len→V.cell? ⟨lb,off+j*2,none⟩=some (.int .u64 ((D j).1:Int))∧V.cell? ⟨lb,off+j*2+1,none⟩=some (.int .u64 ((D j).2:Int)):=fun j hj=>⟨(hb.cell (p:=⟨lb,off+j*2,none⟩) hlb).trans (hc j hj).2.1,(hb.cell (p:=⟨lb,off+j*2+1,none⟩) hlb).trans (hc j hj).2.2⟩
   exact⟨Fl.Ah V lb off len cap D hlV (by omega) hl hcV s hall,Fl.wz V lb off len cap D hlV (by omega) hl hcV s hall⟩
theorem mq (a:Option Addr) (len cap:Nat) (D:Nat→Nat×Nat) (w:World) (ht:Gt.ju w) (hlen:len<9223372036854775808) (hlc:len≤cap) (hcap:cap<9223372036854775808) (hd:Fl.qt w a len D):
  Calls Tryz.prog 3 #[.slice a len cap] w fun e w'=>e= .returned (.bool true)∧Below w.heap.size w w':=by
 have HL:=aa (zZ w ht)
 by_cases h:len≤100
 ·obtain⟨s,hs,hc⟩:=nB w a len cap D hd h
  have HC:=aa hc
  have HS:=aa hs
  have hn: ¬(100:Int)<(len:Int):=by omega
  clear hd hc hs ht
  go_enter Tryz.func3,Tryz.ntmps3
  go_wp2_with (go_at_call 6;refine HL.out.mono ?_;rintro e w1 ⟨rfl,hb1⟩;have HB1:=aa hb1;clear hb1 HL)
  go_wp2_with (go_at_call 8;refine(HC.out _ HB1.out).1.mono ?_;rintro e w2 ⟨rfl,hb2⟩;have HB2:=aa (bt HB1.out hb2);clear hb2)
  go_wp2_with (go_at_call 9;refine(HC.out _ HB2.out).2.mono ?_;rintro e w3 ⟨rfl,hb3⟩;have HB3:=aa (bt HB2.out hb3);clear hb3)
  go_wp2_with (go_at_call 7;refine(Fl.rH s _ HS.out).mono ?_;rintro e w4 ⟨rfl,rfl⟩)
  go_ret
  exact⟨rfl,HB3.out⟩
 ·have hd2:Fl.qt w a 100 D:=by
   rcases hd with q|⟨lb,off,rfl,hlb,hc⟩
   ·omega
   ·exact .inr ⟨lb,off,rfl,hlb,fun j hj=>hc j (by omega)⟩
  obtain⟨lb,off,rfl⟩: ∃lb off,a=some ⟨lb,off,none⟩:=by
   rcases hd with q|⟨lb,off,rfl,_⟩
   ·omega
   ·exact⟨lb,off,rfl⟩
  obtain⟨s,hs,hc⟩:=nB w _ 100 cap D hd2 (Nat.le_refl _)
  have HC:=aa hc
  have HS:=aa hs
  have hn:(100:Int)<(len:Int):=by omega
  have hn2:(100:Int)≤(cap:Int):=by omega
  have hn3:(len:Int)≤(cap:Int):=by omega
  clear hd hc hs ht hd2
  go_enter Tryz.func3,Tryz.ntmps3
  go_wp2_with (go_at_call 6;refine HL.out.mono ?_;rintro e w1 ⟨rfl,hb1⟩;have HB1:=aa hb1;clear hb1 HL)
  go_wp2_with (go_at_call 8;refine(HC.out _ HB1.out).1.mono ?_;rintro e w2 ⟨rfl,hb2⟩;have HB2:=aa (bt HB1.out hb2);clear hb2)
  go_wp2_with (go_at_call 9;refine(HC.out _ HB2.out).2.mono ?_;rintro e w3 ⟨rfl,hb3⟩;have HB3:=aa (bt HB2.out hb3);clear hb3)
  go_wp2_with (go_at_call 7;refine(Fl.rH s _ HS.out).mono ?_;rintro e w4 ⟨rfl,rfl⟩)
  go_ret
  exact⟨rfl,HB3.out⟩
end Go.Proofs.YtdbailcdlngemaaGreatDoor

/- YtdbailcdlngemaaGreatDoorHd: of the texts S9 S10 S10e S10d S11 S11r S12 S13 S13r S14 S15 what is wanted. -/
import Derived.Test.YtdbailcdlngemaaGreatDoorH0
import Derived.Test.YtdbailcdlngemaaGreatDoorHc
import Derived.Lib.EndianBits
import Derived.Test.YtdbailcdlngemaaGreatDoorHa
import Derived.Deep.RegionWith
import Derived.ScopeJumps
import Derived.WalkMore
import Derived.OrdersHeld
set_option maxHeartbeats 16000000
set_option maxRecDepth 100000
set_option linter.unusedVariables false
set_option linter.unusedSimpArgs false
namespace Go.Proofs.YtdbailcdlngemaaGreatDoor.Ex
open Go.RowKit Go.Lib
structure Bl (w:World) (lb off:Nat) (l:List Nat):Prop where
 lt:lb<w.heap.size
 at_: ∀j,j<l.length→w.cell? ⟨lb,off+j,none⟩=some (.int .u8 ((l.getD j 0:Nat):Int))
 small: ∀y∈l,y<256
theorem Bl.below {w w':World} {lb off:Nat} {l:List Nat} (h:Bl w lb off l) (hb:Below w.heap.size w w'):Bl w' lb off l:=
 ⟨Nat.lt_of_lt_of_le h.lt hb.size,fun j hj=>(hb.cell (p:=⟨lb,off+j,none⟩) h.lt).trans (h.at_ j hj),h.small⟩
theorem Bl.drop {w:World} {lb off:Nat} {l:List Nat} (h:Bl w lb off l) (k:Nat):Bl w lb (off+k) (l.drop k):=
 ⟨h.lt,fun j hj=>by
  have:=h.at_ (k+j) (by simp at hj;omega)
  rw[←Nat.add_assoc] at this
  rw[this]
  simp[List.getD],(aW h.small k).2⟩
theorem Bl.take {w:World} {lb off:Nat} {l:List Nat} (h:Bl w lb off l) (k:Nat):Bl w lb off (l.take k):=
 ⟨h.lt,fun j hj=>by
  rw[List.length_take] at hj
  rw[h.at_ j (by omega)]
  simp[List.getD,List.getElem?_take_of_lt (show j<k by omega)],(aW h.small k).1⟩
theorem Bl.Gj {w:World} {lb off:Nat} {l:List Nat} (h:Bl w lb off l):EI w (some ⟨lb,off,none⟩) l.length (fun j=>l.getD j 0):=
 .inr ⟨lb,off,rfl,h.lt,fun j hj=>⟨h.at_ j hj,h.small _ (cV hj)⟩⟩
theorem vd (l:List Nat) (x:Nat):cC (l++[x])=cC l*256+x:=by simp[cC]
theorem wq {l:List Nat} {j:Nat} (h:j<l.length):cC (l.take (j+1))=cC (l.take j)*256+l.getD j 0:=by
 rw[List.take_add_one,List.getElem?_eq_getElem h]
 show cC (l.take j++[l[j]])=_
 rw[vd]
 simp[List.getD,List.getElem?_eq_getElem h]
theorem GD (y x:Nat) (hy:y<72057594037927936) (hx:x<256):bits .or .u64 ((y:Int)*256) (x:Int)=(y:Int)*256+(x:Int):=by
 refine bits_join .u64 64 (by decide) (fun n h0 h1=>by simp[IntKind.wrap,IntKind.bits,IntKind.signed];omega) 8 _ _ (by omega) (by omega) (by omega) (by omega) (by omega) (by omega)
theorem rV {l:List Nat} (hs: ∀y∈l,y<256) {j:Nat} (hj:j<8):cC (l.take j)<72057594037927936:=by
 have h1:=jP (aW hs j).1
 have h2:(l.take j).length≤7:=by simp;omega
 have h3:256^(l.take j).length≤256^7:=Nat.pow_le_pow_right (by omega) h2
 omega
theorem yC (w:World) (lb off cap:Nat) (l:List Nat) (h:Bl w lb off l) (hl:l.length≤8):
  Calls Tryz.prog 50 #[.slice (some ⟨lb,off,none⟩) l.length cap] w fun e w'=>e= .returned (.int .u64 (cC l:Int))∧w'=w:=by
 have HB:=aa h
 clear h
 go_enter Tryz.func50,Tryz.ntmps50
 go_wp2
 go_loopw [3,8] (fun s i wr=> ∃(j:Nat),j≤l.length∧i= .int .i64 (j:Int)∧s= .int .u64 (cC (l.take j):Int)∧wr=w) (fun _ i _=>l.length-(intOf i).toNat)
 case atStart=>exact⟨0,by omega,rfl,by simp[cC],rfl⟩
 case round=>
  obtain⟨j,hj,rfl,rfl,rfl⟩:=hrel
  by_cases hjl:j<l.length
  ·have hjl':(j:Int)<(l.length:Int):=by omega
   have y0:=HB.out.at_ j hjl
   have HT:=aa (wq hjl)
   have hx:l.getD j 0<256:=HB.out.small _ (cV hjl)
   have hy:=rV HB.out.small (j:=j) (by omega)
   generalize l.getD j 0=x at y0 HT hx
   generalize cC (l.take j)=y at HT hy⊢
   have hor:=GD y x hy hx
   go_wp2
   refine⟨⟨j+1,by omega,by go_num,?_,trivial⟩,by simp[intOf];omega⟩
   rw[HT.out]
   congr 1
  ·have hjl': ¬(j:Int)<(l.length:Int):=by omega
   rw[show l.take j=l from List.take_of_length_le (by omega)]
   go_wp2
   go_ret
   exact⟨rfl,rfl⟩
theorem si (w:World) (lb off cap:Nat) (l:List Nat) (h:Bl w lb off l) (h0:0<l.length) (hm:l.length<100000):
  Calls Tryz.prog 32 #[.slice (some ⟨lb,off,none⟩) l.length cap] w fun e w'=>e= .returned (.int .i64 (sz l:Int))∧w'=w:=by
 have y0:=h.at_ 0 h0
 have hx:l.getD 0 0<256:=h.small _ (cV h0)
 have h0':0<(l.length:Int):=by omega
 simp only[Nat.add_zero] at y0
 by_cases h1:l.getD 0 0=1
 ·have HS:Hid (sz l=10):=by show _=_;unfold sz dh;rw[if_pos h1]
  rw[h1] at y0
  clear h1 h hx
  go_enter Tryz.func32,Tryz.ntmps32
  go_wp2
  go_ret
  exact⟨by rw[HS.out];rfl,rfl⟩
 by_cases h2:l.getD 0 0=2
 ·have HS:Hid (sz l=3):=by show _=_;unfold sz dh;rw[if_neg h1,if_pos h2]
  rw[h2] at y0
  clear h1 h2 h hx
  go_enter Tryz.func32,Tryz.ntmps32
  go_wp2
  go_ret
  exact⟨by rw[HS.out];rfl,rfl⟩
 by_cases h3:l.getD 0 0=3
 ·by_cases hl:2≤l.length
  ·have y1:=h.at_ 1 (by omega)
   have hx1:l.getD 1 0<256:=h.small _ (cV (by omega))
   have HS:Hid (sz l=2+4*l.getD 1 0):=by show _=_;unfold sz dh;rw[if_neg h1,if_neg h2,if_pos h3,if_pos hl]
   rw[h3] at y0
   generalize l.getD 1 0=b at*
   have hl':2≤(l.length:Int):=by omega
   clear h1 h2 h3 h hx
   go_enter Tryz.func32,Tryz.ntmps32
   go_wp2
   go_ret
   refine⟨?_,rfl⟩
   rw[HS.out]
   show Ending.returned (.int .i64 _)=_
   congr 2
   omega
  ·have HS:Hid (sz l=2):=by show _=_;unfold sz dh;rw[if_neg h1,if_neg h2,if_pos h3,if_neg hl]
   rw[h3] at y0
   have hl': ¬2≤(l.length:Int):=by omega
   clear h1 h2 h3 h hx
   go_enter Tryz.func32,Tryz.ntmps32
   go_wp2
   go_ret
   exact⟨by rw[HS.out];rfl,rfl⟩
 by_cases h4:l.getD 0 0=4
 ·have HS:Hid (sz l=17):=by show _=_;unfold sz dh;rw[if_neg h1,if_neg h2,if_neg h3,if_pos h4]
  rw[h4] at y0
  clear h1 h2 h3 h4 h hx
  go_enter Tryz.func32,Tryz.ntmps32
  go_wp2
  go_ret
  exact⟨by rw[HS.out];rfl,rfl⟩
 by_cases h5:l.getD 0 0=5
 ·have HS:Hid (sz l=4):=by show _=_;unfold sz dh;rw[if_neg h1,if_neg h2,if_neg h3,if_neg h4,if_pos h5]
  rw[h5] at y0
  clear h1 h2 h3 h4 h5 h hx
  go_enter Tryz.func32,Tryz.ntmps32
  go_wp2
  go_ret
  exact⟨by rw[HS.out];rfl,rfl⟩
 have HS:Hid (sz l=1):=by show _=_;unfold sz dh;rw[if_neg h1,if_neg h2,if_neg h3,if_neg h4,if_neg h5]
 generalize l.getD 0 0=b at*
 have e1:((b:Int)==1)=false:=by simp;omega
 have e2:((b:Int)==2)=false:=by simp;omega
 have e3:((b:Int)==3)=false:=by simp;omega
 have e4:((b:Int)==4)=false:=by simp;omega
 have e5:((b:Int)==5)=false:=by simp;omega
 clear h1 h2 h3 h4 h5 h
 go_enter Tryz.func32,Tryz.ntmps32
 go_wp2
 go_ret
 exact⟨by rw[HS.out];rfl,rfl⟩
theorem sJ (w:World) (a:Option Addr) (len cap:Nat) (X:Nat→Nat) (hb:EI w a len X) (hc:len≤cap) (hcap:cap<9223372036854775808) (hx:X 0<256) (he:len=1+4*X 0) (hr:Rt (X 0) (jI X) (fE X)):
  Calls Tryz.prog 51 #[.slice a len cap] w fun e w'=> ∃a' cap',e= .returned (.tuple #[.slice a' (X 0) cap',.int .i64 0])∧w'.ownsRow w.heap.size 48 2 (.slice a' (X 0) cap') (X 0) (aP (jI X) (fE X) (X 0))∧Below w.heap.size w w':=by
 have HR:=aa (lO w a len cap X hb hc hcap)
 have HN:=aa (fun w1 a1 cap1 hp=>fF w1 a1 (X 0) cap1 (by omega) (jI X) (fE X) hp hr)
 have HE:=aa he
 clear hb he hr
 go_enter Tryz.func51,Tryz.ntmps51
 go_wp2_with (first
  |(go_at_call 75;refine(HR.out).mono ?_;rintro e w1 ⟨v,rfl,hb,hv⟩;have hv2:w1.ownsRow w.heap.size 48 2 v (X 0) (aP (jI X) (fE X) (X 0)):=(by rcases hv with ⟨_,q⟩|⟨q,_⟩;exact q;exact absurd HE.out q);obtain⟨a1,cap1,rfl,hp1⟩:=ir hv2;have HP1:=aa hp1;have HRW:=aa hv2;have HB:=aa hb;clear hb hv hv2 hp1)
  |(go_at_call 65;refine(HN.out _ _ _ HP1.out).mono ?_;rintro e w2 ⟨rfl,hb⟩;have HB2:=aa (HB.out.trans (hb.mono HB.out.size));have HP2:=aa (eN HRW.out hb);clear hb))
 go_ret2
 exact⟨_,_,rfl,HP2.out,HB2.out⟩
theorem Bx.frozen {W:World} {k:Nat} {c:Array Value} {t:TypeId} (h:Bx W k c t) (i:Nat):W.frozen? ⟨k,i,none⟩=false:=by
 unfold World.frozen?
 rw[show W.heap[(⟨k,i,none⟩:Addr).block]? =_ from h]
 simp
theorem Ci {m:List Nat} (h1:m.length=1+4*m.getD 0 0) (h2:rK (fZ m)):lC m=fZ m:=by unfold lC;rw[if_pos ⟨h1,h2⟩]
theorem xQ {m:List Nat} (h: ¬(m.length=1+4*m.getD 0 0∧rK (fZ m))):lC m=[]:=by unfold lC;rw[if_neg h]
theorem xJ (m:List Nat):rK (fZ m)↔Rt (m.getD 0 0) (jI (fun j=>m.getD j 0)) (fE (fun j=>m.getD j 0)):=by
 unfold rK
 rw[dY]
 exact⟨fun h=>qN h (fun i hi=>iC m hi),fun h=>qN h (fun i hi=>⟨(iC m hi).1.symm,(iC m hi).2.symm⟩)⟩
theorem kU {O R O' R':Nat→Int}: ∀k,(∀i,i<k→O i=O' i∧R i=R' i)→aP O R k=aP O' R' k
 |0,_=>rfl
 |k+1,h=>by simp only[aP,kU k (fun i hi=>h i (by omega)),(h k (by omega)).1,(h k (by omega)).2]
def dA (w:World) (base:Nat) (v:Value) (c:List (Int×Int)):Prop:=w.ownsRow base 48 2 v c.length (aP (cO c) (cR c) c.length)
theorem zq {w:World} {base:Nat} {v:Value} {m:List Nat} (h:w.ownsRow base 48 2 v (m.getD 0 0) (aP (jI (fun j=>m.getD j 0)) (fE (fun j=>m.getD j 0)) (m.getD 0 0))):dA w base v (fZ m):=by
 unfold dA
 rw[dY,kU _ (fun i hi=>iC m hi)]
 exact h
theorem eT (w:World) (base:Nat):dA w base (.slice none 0 0) []:=World.ownsRow_nil _ _ _ _
theorem dA.qC {w:World} {base:Nat} {v:Value} {c:List (Int×Int)} (h:dA w base v c): ∃a cap,v= .slice a c.length cap∧lE w a c:=ir h
theorem dA.set {w:World} {base:Nat} {v:Value} {c:List (Int×Int)} (h:dA w base v c) (a:Addr) (u:Value) (ha:a.block<base):dA (w.setCell a u) base v c:=fV h a u ha
theorem dA.low {w:World} {base base':Nat} {v:Value} {c:List (Int×Int)} (h:dA w base v c) (hb:base'≤base):dA w base' v c:=um h hb
theorem iX {w:World} {base:Nat} {a:Option Addr} {cap:Nat} {c:List (Int×Int)} (h:dA w base (.slice a c.length cap) c):lE w a c:=by
 obtain⟨a2,c2,e2,hc⟩:=h.qC
 simp only[Value.slice.injEq,true_and] at e2
 rw[e2.1]
 exact hc
theorem GC (W:World) (lb o c:Nat) (m:List Nat) (h:Bl W lb o m) (hc:m.length≤c) (hc2:c<9223372036854775808):
  Calls Tryz.prog 51 #[.slice (some ⟨lb,o,none⟩) m.length c] W fun e w'=> ∃v x,e= .returned (.tuple #[v,.int .i64 x])∧dA w' W.heap.size v (lC m)∧Below W.heap.size W w':=by
 by_cases h1:m.length=1+4*m.getD 0 0
 ·have h0:m.getD 0 0<256:=h.small _ (cV (by omega))
  by_cases h2:rK (fZ m)
  ·refine(sJ W _ m.length c (fun j=>m.getD j 0) h.Gj hc hc2 h0 h1 ((xJ m).1 h2)).mono fun e w' hh=> ?_
   obtain⟨a',c',he,hp,hb⟩:=hh
   rw[Ci h1 h2]
   exact⟨_,0,he,zq hp,hb⟩
  ·refine(pQ W _ m.length c (fun j=>m.getD j 0) h.Gj hc hc2 h0 h1 (fun q=>h2 ((xJ m).2 q))).mono fun e w' hh=> ?_
   obtain⟨he,hb⟩:=hh
   rw[xQ (fun q=>h2 q.2)]
   exact⟨_,3,he,eT _ _,hb⟩
 ·refine(rT W _ m.length c (fun j=>m.getD j 0) h.Gj hc hc2 h1).mono fun e w' hh=> ?_
  obtain⟨he,hb⟩:=hh
  rw[xQ (fun q=>h1 q.1)]
  exact⟨_,3,he,eT _ _,hb⟩
theorem iI (W:World) (lb o n c:Nat) (l:List Nat) (h:Bl W lb o l) (hn:l.length=n) (hl:n≤8):
  Calls Tryz.prog 50 #[.slice (some ⟨lb,o,none⟩) n c] W fun e w'=>e= .returned (.int .u64 (cC l:Int))∧w'=W:=by
 subst hn
 exact yC W lb o c l h hl
theorem C8 (w:World) (lb off cap:Nat) (l:List Nat) (hB:Bl w lb off l) (hl:l.length=10) (hc:10≤cap) (hc2:cap<9223372036854775808) (h1:l.getD 0 0=1):
  Calls Tryz.prog 33 #[.slice (some ⟨lb,off,none⟩) 10 cap] w fun e w'=>e= .returned (.agg #[.int .i64 1,.int .i64 (l.getD 1 0:Int),.int .u64 (cC (l.drop 2):Int),.int .i64 0,.slice none 0 0,.int .u64 0,.int .u64 0,.int .i64 0,.int .u8 0,.int .i64 0])∧Below w.heap.size w w':=by
 have hc':10≤(cap:Int):=by omega
 have hc1: ¬(cap:Int)=1:=by omega
 have hc3: ¬cap=1:=by omega
 have hc4: ¬cap=2:=by omega
 have hlb:=hB.lt
 have y0:=hB.at_ 0 (by omega)
 rw[h1] at y0
 simp only[Nat.add_zero] at y0
 have HW2:Hid (∀(c c':Array Value) (t t':TypeId),Below w.heap.size w ((w.alloc (.cells c t)).alloc (.cells c' t'))):=fun c c' t t'=>cM w c c' t t'
 have y1:=hB.at_ 1 (by omega)
 have hx1:=hB.small _ (cV (l:=l) (j:=1) (by omega))
 generalize l.getD 1 0=x1 at*
 have HBL:Hid (∀W,Below w.heap.size w W→Bl W lb (off+1+1) (l.drop 2)):=fun W hb=>by
  have:=((hB.below hb).drop 1).drop 1
  rwa [List.drop_drop] at this
 have HL:Hid ((l.drop 2).length=8):=by show _=_;simp[hl]
 have HNS:Hid (cC (l.drop 2)<18446744073709551616):=by
  have q:=jP (aW hB.small 2).2
  rw[HL.out] at q
  show _<_
  omega
 generalize l.drop 2=m at*
 have HRN:=aa (fun W lb o n c l h hn hl=>iI W lb o n c l h hn hl)
 clear hB h1
 go_enter Tryz.func33,Tryz.ntmps33
 go_wp2_with fail
 go_region_with (go_at_call 50;refine(HRN.out _ _ _ 8 _ m (HBL.out _ (bC (HW2.out _ _ _ _))) HL.out (by omega)).mono ?_;rintro e w1 ⟨rfl,hw⟩;replace hw:=hw.symm;subst hw)
 all_goals go_wp2
 all_goals simp[bodyPost,results,Tryz.results33,go_sem]
 all_goals first
  |exact bC (HW2.out _ _ _ _)
  |exact HW2.out _ _ _ _
  |exact⟨by omega,bC (HW2.out _ _ _ _)⟩
theorem Dl (w:World) (lb off cap:Nat) (l:List Nat) (hB:Bl w lb off l) (hl:l.length=3) (hc:3≤cap) (hc2:cap<9223372036854775808) (h1:l.getD 0 0=2):
  Calls Tryz.prog 33 #[.slice (some ⟨lb,off,none⟩) 3 cap] w fun e w'=>e= .returned (.agg #[.int .i64 2,.int .i64 0,.int .u64 0,.int .i64 (cC (l.drop 1):Int),.slice none 0 0,.int .u64 0,.int .u64 0,.int .i64 0,.int .u8 0,.int .i64 0])∧Below w.heap.size w w':=by
 have hc':3≤(cap:Int):=by omega
 have hc1: ¬(cap:Int)=1:=by omega
 have hc3: ¬cap=1:=by omega
 have hc4: ¬cap=2:=by omega
 have hlb:=hB.lt
 have y0:=hB.at_ 0 (by omega)
 rw[h1] at y0
 simp only[Nat.add_zero] at y0
 have HW2:Hid (∀(c c':Array Value) (t t':TypeId),Below w.heap.size w ((w.alloc (.cells c t)).alloc (.cells c' t'))):=fun c c' t t'=>cM w c c' t t'
 have HBL:Hid (∀W,Below w.heap.size w W→Bl W lb (off+1) (l.drop 1)):=fun W hb=>(hB.below hb).drop 1
 have HL:Hid ((l.drop 1).length=2):=by show _=_;simp[hl]
 have hns:cC (l.drop 1)<65536:=by
  have q:=jP (aW hB.small 1).2
  rw[HL.out] at q
  omega
 have hns':(cC (l.drop 1):Int)<9223372036854775808:=by omega
 generalize l.drop 1=m at*
 have HRN:=aa (fun W lb o n c l h hn hl=>iI W lb o n c l h hn hl)
 clear hB h1
 go_enter Tryz.func33,Tryz.ntmps33
 go_wp2_with (go_at_call 50;refine(HRN.out _ _ _ 2 _ m (HBL.out _ (HW2.out _ _ _ _)) HL.out (by omega)).mono ?_;rintro e w1 ⟨rfl,hw⟩;replace hw:=hw.symm;subst hw)
 all_goals simp[bodyPost,results,Tryz.results33,go_sem]
 all_goals first
  |exact bC (HW2.out _ _ _ _)
  |exact HW2.out _ _ _ _
  |exact⟨by omega,bC (HW2.out _ _ _ _)⟩
theorem Dn (w:World) (lb off cap:Nat) (l:List Nat) (hB:Bl w lb off l) (hl:l.length=17) (hc:17≤cap) (hc2:cap<9223372036854775808) (h1:l.getD 0 0=4):
  Calls Tryz.prog 33 #[.slice (some ⟨lb,off,none⟩) 17 cap] w fun e w'=>e= .returned (.agg #[.int .i64 4,.int .i64 0,.int .u64 0,.int .i64 0,.slice none 0 0,.int .u64 (cC ((l.drop 1).take 8):Int),.int .u64 (cC (l.drop 9):Int),.int .i64 0,.int .u8 0,.int .i64 0])∧Below w.heap.size w w':=by
 have hc':17≤(cap:Int):=by omega
 have hc1: ¬(cap:Int)=1:=by omega
 have hc3: ¬cap=1:=by omega
 have hc4: ¬cap=2:=by omega
 have hc5: ¬cap=9:=by omega
 have hlb:=hB.lt
 have y0:=hB.at_ 0 (by omega)
 rw[h1] at y0
 simp only[Nat.add_zero] at y0
 have HW2:Hid (∀(c c':Array Value) (t t':TypeId),Below w.heap.size w ((w.alloc (.cells c t)).alloc (.cells c' t'))):=fun c c' t t'=>cM w c c' t t'
 have HBL:Hid (∀W,Below w.heap.size w W→Bl W lb (off+1) ((l.drop 1).take 8)):=fun W hb=>((hB.below hb).drop 1).take 8
 have HBM:Hid (∀W,Below w.heap.size w W→Bl W lb (off+1+8) (l.drop 9)):=fun W hb=>by
  have:=((hB.below hb).drop 1).drop 8
  rwa [List.drop_drop] at this
 have HL:Hid (((l.drop 1).take 8).length=8):=by show _=_;simp[hl]
 have HM:Hid ((l.drop 9).length=8):=by show _=_;simp[hl]
 generalize (l.drop 1).take 8=m at*
 generalize l.drop 9=m2 at*
 have HRN:=aa (fun W lb o n c l h hn hl=>iI W lb o n c l h hn hl)
 clear hB h1
 go_enter Tryz.func33,Tryz.ntmps33
 go_wp2_with fail
 go_region_with (first
  |(have hd2:=hdone;go_at_call 50;refine(HRN.out _ _ _ 8 _ m2 (HBM.out _ (bC (HW2.out _ _ _ _))) HM.out (by omega)).mono ?_;rintro e w1 ⟨rfl,hw⟩;replace hw:=hw.symm;subst hw)
  |(go_at_call 50;refine(HRN.out _ _ _ 8 _ m (HBL.out _ (bC (HW2.out _ _ _ _))) HL.out (by omega)).mono ?_;rintro e w1 ⟨rfl,hw⟩;replace hw:=hw.symm;subst hw;have hdone:=trivial))
 all_goals go_wp2
 all_goals simp[bodyPost,results,Tryz.results33,go_sem]
 all_goals first
  |exact bC (HW2.out _ _ _ _)
  |exact HW2.out _ _ _ _
  |exact⟨by omega,bC (HW2.out _ _ _ _)⟩
theorem Ec (w:World) (lb off cap:Nat) (l:List Nat) (hB:Bl w lb off l) (hl:l.length=4) (hc:4≤cap) (hc2:cap<9223372036854775808) (h1:l.getD 0 0=5):
  Calls Tryz.prog 33 #[.slice (some ⟨lb,off,none⟩) 4 cap] w fun e w'=>e= .returned (.agg #[.int .i64 5,.int .i64 0,.int .u64 0,.int .i64 0,.slice none 0 0,.int .u64 0,.int .u64 0,.int .i64 (l.getD 1 0:Int),.int .u8 (l.getD 2 0:Int),.int .i64 ((l.getD 3 0:Int)-1)])∧Below w.heap.size w w':=by
 have hc':4≤(cap:Int):=by omega
 have hc1: ¬(cap:Int)=1:=by omega
 have hc3: ¬cap=1:=by omega
 have hc4: ¬cap=2:=by omega
 have hlb:=hB.lt
 have y0:=hB.at_ 0 (by omega)
 rw[h1] at y0
 simp only[Nat.add_zero] at y0
 have HW2:Hid (∀(c c':Array Value) (t t':TypeId),Below w.heap.size w ((w.alloc (.cells c t)).alloc (.cells c' t'))):=fun c c' t t'=>cM w c c' t t'
 have y1:=hB.at_ 1 (by omega)
 have hx1:=hB.small _ (cV (l:=l) (j:=1) (by omega))
 have y2:=hB.at_ 2 (by omega)
 have hx2:=hB.small _ (cV (l:=l) (j:=2) (by omega))
 have y3:=hB.at_ 3 (by omega)
 have hx3:=hB.small _ (cV (l:=l) (j:=3) (by omega))
 generalize l.getD 1 0=x1 at*
 generalize l.getD 2 0=x2 at*
 generalize l.getD 3 0=x3 at*
 have HRN:=aa (fun W lb o n c l h hn hl=>iI W lb o n c l h hn hl)
 clear hB h1
 go_enter Tryz.func33,Tryz.ntmps33
 go_wp2_with fail
 go_region
 all_goals go_wp2
 all_goals simp[bodyPost,results,Tryz.results33,go_sem]
 all_goals first
  |exact bC (HW2.out _ _ _ _)
  |exact HW2.out _ _ _ _
  |exact⟨by omega,bC (HW2.out _ _ _ _)⟩
theorem DJ (w:World) (lb off cap:Nat) (l:List Nat) (hB:Bl w lb off l) (hl:2≤l.length) (hlm:l.length<100000) (hc:l.length≤cap) (hc2:cap<9223372036854775808) (h1:l.getD 0 0=3):
  Calls Tryz.prog 33 #[.slice (some ⟨lb,off,none⟩) l.length cap] w fun e w'=> ∃ca cc,e= .returned (.agg #[.int .i64 3,.int .i64 0,.int .u64 0,.int .i64 0,.slice ca (lC (l.drop 1)).length cc,.int .u64 0,.int .u64 0,.int .i64 0,.int .u8 0,.int .i64 0])∧dA w' w.heap.size (.slice ca (lC (l.drop 1)).length cc) (lC (l.drop 1))∧Below w.heap.size w w':=by
 have hc':(l.length:Int)≤(cap:Int):=by omega
 have hl0:0<(l.length:Int):=by omega
 have hl1:1≤(l.length:Int):=by omega
 have hc1: ¬(cap:Int)=1:=by omega
 have hc3: ¬cap=1:=by omega
 have hlb:=hB.lt
 have y0:=hB.at_ 0 (by omega)
 rw[h1] at y0
 simp only[Nat.add_zero] at y0
 have HW2:Hid (∀(c c':Array Value) (t t':TypeId),Below w.heap.size w ((w.alloc (.cells c t)).alloc (.cells c' t'))):=fun c c' t t'=>cM w c c' t t'
 have HD:Hid (∀W,Below w.heap.size w W→Calls Tryz.prog 51 #[.slice (some ⟨lb,off+1,none⟩) (l.length-1) (cap-1)] W fun e w'=> ∃a' c' x,e= .returned (.tuple #[.slice a' (lC (l.drop 1)).length c',.int .i64 x])∧dA w' W.heap.size (.slice a' (lC (l.drop 1)).length c') (lC (l.drop 1))∧Below W.heap.size W w'):=by
  intro W hb
  have q:=GC W lb (off+1) (cap-1) (l.drop 1) ((hB.below hb).drop 1) (by simp;omega) (by omega)
  rw[List.length_drop] at q
  refine q.mono fun e w' hh=> ?_
  obtain⟨v,x,he,hv,hb'⟩:=hh
  obtain⟨a',c',rfl,_⟩:=hv.qC
  exact⟨a',c',x,he,hv,hb'⟩
 have HFR:Hid (∀W w1:World,∀(c c':Array Value) (t t':TypeId),W=((w.alloc (.cells c t)).alloc (.cells c' t'))→Below W.heap.size W w1→Bx w1 w.heap.size c t∧Bx w1 (w.heap.size+1) c' t'∧Below w.heap.size w w1∧W.heap.size=w.heap.size+2):=by
  rintro W w1 c c' t t' rfl hb
  have b1:=(gP w c t).alloc (.cells c' t')
  have b2:=gP (w.alloc (.cells c t)) c' t'
  rw[show(w.alloc (.cells c t)).heap.size=w.heap.size+1 by simp] at b2
  exact⟨b1.below hb b1.lt,b2.below hb b2.lt,(cM w c c' t t').trans (hb.mono (by simp;omega)),by simp⟩
 clear hB h1
 generalize lC (l.drop 1)=C at*
 go_enter Tryz.func33,Tryz.ntmps33
 go_wp2_with (go_at_call 51;refine(HD.out _ (HW2.out _ _ _ _)).mono ?_;rintro e w1 ⟨a1,c1,x1,rfl,hcd,hb⟩;obtain⟨k1,k2,k3,k4⟩:=HFR.out _ _ _ _ _ _ rfl hb;rw[k4] at hcd;have p0:=k1.cell 0 _ rfl;have q0:=k2.cell 0 _ rfl;have f0:=k1.frozen 0;have g0:=k2.frozen 0;have p1:=k1.cell 1 _ rfl;have q1:=k2.cell 1 _ rfl;have f1:=k1.frozen 1;have g1:=k2.frozen 1;have p2:=k1.cell 2 _ rfl;have q2:=k2.cell 2 _ rfl;have f2:=k1.frozen 2;have g2:=k2.frozen 2;have p3:=k1.cell 3 _ rfl;have q3:=k2.cell 3 _ rfl;have f3:=k1.frozen 3;have g3:=k2.frozen 3;have p4:=k1.cell 4 _ rfl;have q4:=k2.cell 4 _ rfl;have f4:=k1.frozen 4;have g4:=k2.frozen 4;have p5:=k1.cell 5 _ rfl;have q5:=k2.cell 5 _ rfl;have f5:=k1.frozen 5;have g5:=k2.frozen 5;have p6:=k1.cell 6 _ rfl;have q6:=k2.cell 6 _ rfl;have f6:=k1.frozen 6;have g6:=k2.frozen 6;have p7:=k1.cell 7 _ rfl;have q7:=k2.cell 7 _ rfl;have f7:=k1.frozen 7;have g7:=k2.frozen 7;have p8:=k1.cell 8 _ rfl;have q8:=k2.cell 8 _ rfl;have f8:=k1.frozen 8;have g8:=k2.frozen 8;have p9:=k1.cell 9 _ rfl;have q9:=k2.cell 9 _ rfl;have f9:=k1.frozen 9;have g9:=k2.frozen 9;have HC:=aa hcd;have HK:=aa k3;have HK1:=aa k1;have HK2:=aa k2;clear hcd hb k1 k2 k3 k4)
 refine bodyPost_ret (v:= .agg #[.int .i64 3,.int .i64 0,.int .u64 0,.int .i64 0,.slice a1 C.length c1,.int .u64 0,.int .u64 0,.int .i64 0,.int .u8 0,.int .i64 0]) ?_ rfl ?_
 ·simp[results,Tryz.results33,go_sem,p0,p1,p2,p3,p4,p5,p6,p7,p8,p9]
 ·refine⟨a1,c1,rfl,?_,?_⟩
  ·refine dA.low (base:=w.heap.size+2) ?_ (by omega)
   iterate 11 refine dA.set ?_ _ _ (by simp)
   exact HC.out
  ·iterate 11 refine j7 ?_ _ _ (by simp)
   exact HK.out
theorem D2 (w:World) (lb off cap:Nat) (l:List Nat) (hB:Bl w lb off l) (hl:l.length=1) (hc:1≤cap) (hc2:cap<9223372036854775808) (b:Nat) (hb:l.getD 0 0=b) (h1:b≠1) (h2:b≠2) (h3:b≠3) (h4:b≠4) (h5:b≠5):
  Calls Tryz.prog 33 #[.slice (some ⟨lb,off,none⟩) 1 cap] w fun e w'=>e= .returned (.agg #[.int .i64 (b:Int),.int .i64 0,.int .u64 0,.int .i64 0,.slice none 0 0,.int .u64 0,.int .u64 0,.int .i64 0,.int .u8 0,.int .i64 0])∧Below w.heap.size w w':=by
 have hc':1≤(cap:Int):=by omega
 have hlb:=hB.lt
 have y0:=hB.at_ 0 (by omega)
 have hbs:=hB.small _ (cV (l:=l) (j:=0) (by omega))
 rw[hb] at y0 hbs
 simp only[Nat.add_zero] at y0
 have HW2:Hid (∀(c c':Array Value) (t t':TypeId),Below w.heap.size w ((w.alloc (.cells c t)).alloc (.cells c' t'))):=fun c c' t t'=>cM w c c' t t'
 have e1:((b:Int)==1)=false:=by simp;omega
 have e2:((b:Int)==2)=false:=by simp;omega
 have e3:((b:Int)==3)=false:=by simp;omega
 have e4:((b:Int)==4)=false:=by simp;omega
 have e5:((b:Int)==5)=false:=by simp;omega
 clear hB hb h1 h2 h3 h4 h5
 by_cases hcc:cap=1
 ·subst hcc
  go_enter Tryz.func33,Tryz.ntmps33
  go_wp2
  simp[bodyPost,results,Tryz.results33,go_sem]
  exact HW2.out _ _ _ _
 ·have hcc': ¬(cap:Int)=1:=by omega
  go_enter Tryz.func33,Tryz.ntmps33
  go_wp2
  simp[bodyPost,results,Tryz.results33,go_sem]
  exact HW2.out _ _ _ _
def ec (x:En) (a:Option Addr) (c:Nat):List Value:=[.int .i64 x.d,.int .i64 x.p,.int .u64 (x.dr:Int),.int .i64 x.n,.slice a x.code.length c,.int .u64 (x.bu:Int),.int .u64 (x.pe:Int),.int .i64 x.pr,.int .u8 (x.lv:Int),.int .i64 x.sv]
abbrev Zs:=List (En×Option Addr×Nat)
def dq (Z:Zs):List Value:=Z.flatMap (fun z=>ec z.1 z.2.1 z.2.2)
theorem iQ (Z Y:Zs):dq (Z++Y)=dq Z++dq Y:=by simp[dq]
theorem sc (z:En×Option Addr×Nat):dq [z]=ec z.1 z.2.1 z.2.2:=by simp[dq]
theorem iz (x:En) (a:Option Addr) (c:Nat):(ec x a c).length=10:=rfl
theorem ic: ∀(Z:Zs) (j:Nat) (z:En×Option Addr×Nat),Z[j]? =some z→ ∀i u,(ec z.1 z.2.1 z.2.2)[i]? =some u→(dq Z)[j*10+i]? =some u
 |[],j,z,h=>by simp at h
 |y::Z,0,z,h=>by
  intro i u hu
  simp at h
  subst h
  show(ec y.1 y.2.1 y.2.2++dq Z)[0*10+i]? =some u
  rw[List.getElem?_append_left (by have:=(List.getElem?_eq_some_iff.1 hu).1;omega)]
  simpa using hu
 |y::Z,j+1,z,h=>by
  intro i u hu
  have:=ic Z j z (by simpa using h) i u hu
  show(ec y.1 y.2.1 y.2.2++dq Z)[(j+1)*10+i]? =some u
  rw[List.getElem?_append_right (by rw[iz];omega),iz,show(j+1)*10+i-10=j*10+i by omega]
  exact this
theorem tZ (x:En) (a:Option Addr) (c:Nat): ∀u∈ec x a c,u.oneCell'=true:=by
 intro u hu
 simp only[ec,List.mem_cons,List.not_mem_nil,or_false] at hu
 rcases hu with rfl|rfl|rfl|rfl|rfl|rfl|rfl|rfl|rfl|rfl<;>rfl
structure Rw (w:World) (base:Nat) (T:TypeId) (v:Value) (Z:Zs):Prop where
 row:w.ownsRow base T 10 v Z.length (dq Z)
 qC: ∀z∈Z,dA w base (.slice z.2.1 z.1.code.length z.2.2) z.1.code∧z.1.code.length≤64∧pV z.1
theorem zf (w:World) (base:Nat) (T:TypeId):Rw w base T (.slice none 0 0) []:=⟨World.ownsRow_nil _ _ _ _,fun z hz=>by cases hz⟩
theorem dA.below {w w':World} {base:Nat} {v:Value} {c:List (Int×Int)} (h:dA w base v c) (hb:Below w.heap.size w w'):dA w' base v c:=eN h hb
theorem dA.grown {w w':World} {b base:Nat} {v v2:Value} {c:List (Int×Int)} {T:TypeId} {s n:Nat} {xs:List Value} (h:dA w b v c) (ho:w.ownsRow base T s v2 n xs) (hT:T≠48) (hg:w.grownBy w' v2.ownBlock):dA w' b v c:=by
 refine⟨h.1,?_⟩
 rcases h.2 with hn|⟨g,cap,cur,rfl,hb,hgg,rest⟩
 ·exact .inl hn
 ·refine .inr ⟨g,cap,cur,rfl,hb,(hg.block g (Array.getElem?_eq_some_iff.1 hgg).1 (fun q=> ?_)).trans hgg,rest⟩
  exact sj ho (c:=cur) hgg hT q.symm
theorem Rw.below {w w':World} {base:Nat} {T:TypeId} {v:Value} {Z:Zs} (h:Rw w base T v Z) (hb:Below w.heap.size w w'):Rw w' base T v Z:=
 ⟨eN h.row hb,fun z hz=>⟨(h.qC z hz).1.below hb,(h.qC z hz).2⟩⟩
theorem Rw.snoc {w w':World} {base:Nat} {T:TypeId} {v v':Value} {Z:Zs} (h:Rw w base T v Z) (hT:T≠48) (x:En) (a:Option Addr) (c:Nat) (hx:dA w base (.slice a x.code.length c) x.code) (h64:x.code.length≤64) (hw:pV x)
  (ho:w'.ownsRow base T 10 v' (Z.length+1) (dq Z++ec x a c)) (hg:w.grownBy w' v.ownBlock):Rw w' base T v' (Z++[(x,a,c)]):=by
 refine⟨?_,fun z hz=> ?_⟩
 ·rw[List.length_append,iQ,sc]
  exact ho
 ·rcases List.mem_append.1 hz with hz|hz
  ·exact⟨(h.qC z hz).1.grown h.row hT hg,(h.qC z hz).2⟩
  ·obtain rfl:z=(x,a,c):=by simpa using hz
   exact⟨hx.grown h.row hT hg,h64,hw⟩
theorem Rw.GI {w:World} {base:Nat} {T:TypeId} {v:Value} {Z:Zs} (h:Rw w base T v Z): ∃a cap,v= .slice a Z.length cap∧F1 w a (Z.map (·.1)):=by
 rcases h.row.2 with ⟨rfl,h0⟩|⟨g,cap,cur,rfl,hb,hgg,hn,hm,hc,ht⟩
 ·have:Z=[]:=List.length_eq_zero_iff.1 h0
  subst this
  exact⟨none,0,rfl,.inl rfl⟩
 ·refine⟨_,cap,rfl,.inr ⟨g,0,rfl,(Array.getElem?_eq_some_iff.1 hgg).1,fun j x hj=> ?_⟩⟩
  rw[List.getElem?_map] at hj
  cases hz:Z[j]? with
  |none=>rw[hz] at hj;simp at hj
  |some z=>
   rw[hz] at hj
   simp at hj
   subst hj
   have hcell: ∀i u,(ec z.1 z.2.1 z.2.2)[i]? =some u→w.cell? ⟨g,0+j*10+i,none⟩=some u:=by
    intro i u hu
    have q:=ic Z j z hz i u hu
    have hi:=(List.getElem?_eq_some_iff.1 hu).1
    rw[iz] at hi
    have hj':=(List.getElem?_eq_some_iff.1 hz).1
    rw[←ht,List.getElem?_take_of_lt (by omega)] at q
    unfold World.cell?
    simp only[hgg]
    rw[show 0+j*10+i=j*10+i by omega]
    simpa using q
   obtain⟨q1,q2,q3⟩:=h.qC z (List.mem_of_getElem? hz)
   exact⟨z.2.1,z.2.2,hcell 0 _ rfl,hcell 1 _ rfl,hcell 2 _ rfl,hcell 3 _ rfl,hcell 4 _ rfl,hcell 5 _ rfl,hcell 6 _ rfl,hcell 7 _ rfl,hcell 8 _ rfl,hcell 9 _ rfl,iX q1,by omega,.inl q2,q3⟩
theorem Eb (w:World) (lb off cap:Nat) (l:List Nat) (hB:Bl w lb off l) (hl:l.length=sz l) (hm:l.length<100000) (hc:l.length≤cap) (hc2:cap<9223372036854775808) (y:En) (hy:y=eM l):
  Calls Tryz.prog 33 #[.slice (some ⟨lb,off,none⟩) l.length cap] w fun e w'=> ∃ca cc,e= .returned (.agg #[.int .i64 y.d,.int .i64 y.p,.int .u64 (y.dr:Int),.int .i64 y.n,.slice ca y.code.length cc,.int .u64 (y.bu:Int),.int .u64 (y.pe:Int),.int .i64 y.pr,.int .u8 (y.lv:Int),.int .i64 y.sv])∧dA w' w.heap.size (.slice ca y.code.length cc) y.code∧Below w.heap.size w w':=by
 subst hy
 by_cases h1:l.getD 0 0=1
 ·have hk:l.length=10:=by rw[hl];unfold sz dh;rw[if_pos h1]
  have e:eM l=bo (l.getD 1 0:Int) (cC (l.drop 2)):=by unfold eM;rw[if_pos h1]
  rw[e,hk]
  exact(C8 w lb off cap l hB hk (by omega) hc2 h1).mono fun e w' ⟨he,hb⟩=>⟨none,0,he,eT _ _,hb⟩
 by_cases h2:l.getD 0 0=2
 ·have hk:l.length=3:=by rw[hl];unfold sz dh;rw[if_neg h1,if_pos h2]
  have e:eM l=cW (cC (l.drop 1):Int):=by unfold eM;rw[if_neg h1,if_pos h2]
  rw[e,hk]
  exact(Dl w lb off cap l hB hk (by omega) hc2 h2).mono fun e w' ⟨he,hb⟩=>⟨none,0,he,eT _ _,hb⟩
 by_cases h3:l.getD 0 0=3
 ·have hk:2≤l.length:=by rw[hl];unfold sz dh;rw[if_neg h1,if_neg h2,if_pos h3];split<;>omega
  have e:eM l=ck (lC (l.drop 1)):=by unfold eM;rw[if_neg h1,if_neg h2,if_pos h3]
  rw[e]
  exact DJ w lb off cap l hB hk hm hc hc2 h3
 by_cases h4:l.getD 0 0=4
 ·have hk:l.length=17:=by rw[hl];unfold sz dh;rw[if_neg h1,if_neg h2,if_neg h3,if_pos h4]
  have e:eM l=cI (cC ((l.drop 1).take 8)) (cC (l.drop 9)):=by unfold eM;rw[if_neg h1,if_neg h2,if_neg h3,if_pos h4]
  rw[e,hk]
  exact(Dn w lb off cap l hB hk (by omega) hc2 h4).mono fun e w' ⟨he,hb⟩=>⟨none,0,he,eT _ _,hb⟩
 by_cases h5:l.getD 0 0=5
 ·have hk:l.length=4:=by rw[hl];unfold sz dh;rw[if_neg h1,if_neg h2,if_neg h3,if_neg h4,if_pos h5]
  have e:eM l=cg (l.getD 1 0:Int) (l.getD 2 0) ((l.getD 3 0:Int)-1):=by unfold eM;rw[if_neg h1,if_neg h2,if_neg h3,if_neg h4,if_pos h5]
  rw[e,hk]
  exact(Ec w lb off cap l hB hk (by omega) hc2 h5).mono fun e w' ⟨he,hb⟩=>⟨none,0,he,eT _ _,hb⟩
 have hk:l.length=1:=by rw[hl];unfold sz dh;rw[if_neg h1,if_neg h2,if_neg h3,if_neg h4,if_neg h5]
 have e:eM l=⟨(l.getD 0 0:Int),0,0,0,[],0,0,0,0,0⟩:=by unfold eM;rw[if_neg h1,if_neg h2,if_neg h3,if_neg h4,if_neg h5]
 rw[e,hk]
 exact(D2 w lb off cap l hB hk (by omega) hc2 _ rfl h1 h2 h3 h4 h5).mono fun e w' ⟨he,hb⟩=>⟨none,0,he,eT _ _,hb⟩
def yV (w:World) (T:TypeId) (l:List Nat) (e:Ending) (w':World):Prop:=
 Below w.heap.size w w'∧((∃Z v,Good l (Z.map (·.1))∧e= .returned (.tuple #[v,.int .i64 0,.int .i64 0])∧Rw w' w.heap.size T v Z)∨(∃L:List En,nH l L∧e= .returned (.tuple #[.slice none 0 0,.int .i64 3,.int .i64 (L.length:Int)])))
def lenOf:Value→Nat
 | .slice _ n _=>n
 |_=>0
theorem nA:(Tryz.prog.info? 51).map (fun i=>(i.zero,i.size,i.bytes))=some (some (.agg #[.int .i64 0,.int .i64 0,.int .u64 0,.int .i64 0,.slice none 0 0,.int .u64 0,.int .u64 0,.int .i64 0,.int .u8 0,.int .i64 0]),10,96):=by kernel_rfl
theorem Dr {l:List Nat} (h:aU (eM l)):(eM l).code.length≤64:=by
 rcases h with ⟨e,_⟩|⟨e,_⟩|⟨e,h⟩|e|⟨e,_⟩
 ·rw[e];simp[bo]
 ·rw[e];simp[cW]
 ·exact(du h).2.1
 ·rw[e];simp[cI]
 ·rw[e];simp[cg]
theorem wv (l:List Nat):(eM l).code.length<9223372036854775808:=by
 unfold eM
 repeat' split
 all_goals try(simp[bo,cW,cI,cg];done)
 ·show(lC _).length<_
  unfold lC
  split
  ·rename_i h
   have:=(du h.2).2.1
   omega
  ·simp
theorem Bt {l0:List Nat} {L:List En} {k:Nat} (hk:k<l0.length) (hs: ∀y∈l0,y<256) (hL:gL L) (hl:l0=all L++l0.drop k) (h:sz (l0.drop k)≤(l0.drop k).length) (hy:aU (eM ((l0.drop k).take (sz (l0.drop k))))):
  gL (L++[eM ((l0.drop k).take (sz (l0.drop k)))])∧l0=all (L++[eM ((l0.drop k).take (sz (l0.drop k)))])++l0.drop (k+sz (l0.drop k))∧k+sz (l0.drop k)≤l0.length∧pV (eM ((l0.drop k).take (sz (l0.drop k)))):=by
 obtain⟨q1,q2⟩:=B6 (aW hs k).2 h hy
 refine⟨fun x hx=> ?_,?_,by rw[List.length_drop] at h;omega,q1⟩
 ·rcases List.mem_append.1 hx with hx|hx
  ·exact hL x hx
  ·obtain rfl:x=_:=by simpa using hx
   exact⟨hy,q1⟩
 ·rw[pS,List.append_assoc,←List.drop_drop,←q2]
  exact hl
theorem bf {w:World} {o:Obj} {a:Addr} {u:Value} (h:w.cell? a=some u):(w.alloc o).drew.cell? a=some u:=((Below.refl w.heap.size w).alloc (Nat.le_refl _) o|>.cell (p:=a) (World.block_lt_of_cell? w _ h)).trans h
theorem yM (w:World) (lb off cap:Nat) (l0:List Nat) (hB:Bl w lb off l0) (h0:0<l0.length) (hm:l0.length<100000) (hc:l0.length≤cap) (hc2:cap<9223372036854775808):
  Calls Tryz.prog 19 #[.slice (some ⟨lb,off,none⟩) l0.length cap] w (yV w 51 l0):=by
 obtain⟨i0,hi,hz0,hz1,hz2⟩:=info_parts nA
 have HBL:=aa hB
 clear hB
 go_enter Tryz.func19,Tryz.ntmps19
 go_wp2
 refine wp_scope_jumps 0 (fun a' w'=> ∃(L:List En) (nv:Nat) (av:Option Addr) (cv:Nat) (u0 u1 u2 u3 u4 u6 u7 u8 u9 u10 u11 u12 u13 u14 u15 u16 u17 u18 u19 u20 u21 u22 u23 u24 u25 u26 u27 u28 u29 u30 u31 u32 u33:Value),a'={tmps:= #[u0,u1,u2,u3,u4,.slice av nv cv,u6,u7,u8,u9,u10,u11,u12,u13,u14,u15,u16,u17,u18,u19,u20,u21,u22,u23,u24,u25,u26,u27,u28,u29,u30,u31,u32,u33],defers:=[]}∧nv=L.length∧nH l0 L∧Below w.heap.size w w') (fun _ _=>0) rfl ?_ ?_
 rotate_left
 ·rintro a' w' ⟨L,nv,av,cv,u0,u1,u2,u3,u4,u6,u7,u8,u9,u10,u11,u12,u13,u14,u15,u16,u17,u18,u19,u20,u21,u22,u23,u24,u25,u26,u27,u28,u29,u30,u31,u32,u33,rfl,rfl,hbad,hbel⟩
  have HBD:=aa hbad
  have HBW:=aa hbel
  clear hbad hbel
  go_wp2
  simp only[Exit.jump]
  go_ret3
  exact⟨HBW.out,.inr ⟨L,HBD.out,rfl⟩⟩
 go_wp2
 go_loopw [0,5] (fun s0 s5 wr=> ∃(Z:Zs) (k:Nat) (ba:Addr),gL (Z.map (·.1))∧k≤l0.length∧l0=all (Z.map (·.1))++l0.drop k∧(k<l0.length→ba=⟨lb,off+k,none⟩)∧s0= .slice (some ba) (l0.length-k) (cap-k)∧Rw wr w.heap.size 51 s5 Z∧Below w.heap.size w wr∧Z.length≤k) (fun s0 _ _=>lenOf s0)
 case atStart=>exact⟨[],0,⟨lb,off,none⟩,(fun x hx=>(by cases hx)),by omega,rfl,fun _=>rfl,rfl,zf _ _ _,Below.refl _ _,Nat.le_refl _⟩
 case round=>
  obtain⟨Z,k,ba,hRt,hk,hl0,hba,rfl,hRw,hbel,hZk⟩:=hrel
  obtain⟨va,vl,vc,hv⟩:=eR hRw.row
  subst hv
  by_cases hkl:k<l0.length
  ·have hba':=hba hkl
   subst hba'
   have hBr:=(HBL.out.below hbel).drop k
   have hsm:=HBL.out.small
   have hlen:(l0.drop k).length=l0.length-k:=List.length_drop
   have HLN:Hid (Calls Tryz.prog 32 #[.slice (some ⟨lb,off+k,none⟩) (l0.length-k) (cap-k)] wr fun e w'=>e= .returned (.int .i64 (sz (l0.drop k):Int))∧w'=wr):=by
    have q:=si wr lb (off+k) (cap-k) (l0.drop k) hBr (by omega) (by omega)
    rwa [hlen] at q
   have hn0:0<((l0.length-k:Nat):Int):=by omega
   have hS1:1≤sz (l0.drop k):=rC _ _ _
   have HV:Hid (vl=Z.length):=by
    rcases hRw.row.2 with ⟨q,q0⟩|⟨g,cap',cur,q,_⟩
    ·simp only[Value.slice.injEq] at q;show _=_;omega
    ·simp only[Value.slice.injEq] at q;exact q.2.1
   by_cases hsh:(l0.drop k).length<sz (l0.drop k)
   ·have HBAD:Hid (nH l0 (Z.map (·.1))):=⟨hRt,l0.drop k,by intro q;rw[q] at hlen;simp at hlen;omega,yd hsh,hl0⟩
    have hlt:((l0.length-k:Nat):Int)<(sz (l0.drop k):Int):=by omega
    have HBW:=aa hbel
    have HVL:Hid (vl=(Z.map (·.1)).length):=by rw[List.length_map];exact HV.out
    clear hRt hl0 hba hRw hbel hBr hsm hsh
    generalize sz (l0.drop k)=S at*
    generalize l0.length-k=n at*
    go_wp2_with (go_at_call 32;refine(HLN.out).mono ?_;rintro e w1 ⟨rfl,hw⟩;replace hw:=hw.symm;subst hw)
    go_step3
    exact⟨rfl,Z.map (·.1),vl,va,vc,_,_,_,_,_,_,_,_,_,_,_,_,_,_,_,_,_,_,_,_,_,_,_,_,_,_,_,_,_,_,_,_,_,rfl,HVL.out,HBAD.out,HBW.out⟩
   ·have hle:sz (l0.drop k)≤(l0.drop k).length:=by omega
    have hlt: ¬((l0.length-k:Nat):Int)<(sz (l0.drop k):Int):=by omega
    obtain⟨y,hy⟩: ∃y,y=eM ((l0.drop k).take (sz (l0.drop k))):=⟨_,rfl⟩
    have htl:((l0.drop k).take (sz (l0.drop k))).length=sz (l0.drop k):=by rw[List.length_take];omega
    have HRD:Hid (Calls Tryz.prog 33 #[.slice (some ⟨lb,off+k,none⟩) (sz (l0.drop k)) (cap-k)] wr fun e w'=> ∃ca cc,e= .returned (.agg #[.int .i64 y.d,.int .i64 y.p,.int .u64 (y.dr:Int),.int .i64 y.n,.slice ca y.code.length cc,.int .u64 (y.bu:Int),.int .u64 (y.pe:Int),.int .i64 y.pr,.int .u8 (y.lv:Int),.int .i64 y.sv])∧dA w' wr.heap.size (.slice ca y.code.length cc) y.code∧Below wr.heap.size wr w'):=by
     have q:=Eb wr lb (off+k) (cap-k) ((l0.drop k).take (sz (l0.drop k))) (hBr.take _) (by rw[ud hle,htl]) (by omega) (by omega) (by omega) y hy
     rwa [htl] at q
    have hys:y.code.length<9223372036854775808:=by rw[hy];exact wv _
    have hsz:=hbel.size
    have hSc:(sz (l0.drop k):Int)≤((cap-k:Nat):Int):=by omega
    by_cases hrt:aU y
    ·have HRT:=aa (fun W ca cc (h:lE W ca y.code)=>nG W y ca cc h hys hrt)
     obtain⟨q1,q2,q3,q4⟩:=Bt hkl hsm hRt hl0 hle (hy▸hrt)
     rw[←hy] at q1 q2 q4
     have HON:Hid (gL (Z.map (·.1)++[y])∧l0=all (Z.map (·.1)++[y])++l0.drop (k+sz (l0.drop k))∧k+sz (l0.drop k)≤l0.length∧pV y∧y.code.length≤64):=⟨q1,q2,q3,q4,by rw[hy];exact Dr (hy▸hrt)⟩
     have HRW:=aa hRw
     have HBW:=aa hbel
     have hZ:Z.length<100000:=by omega
     clear q1 q2 q3 q4 hRt hl0 hba hRw hbel hBr hsm hsh hrt hy htl hle
     have HE1:Hid (l0.length-k-sz (l0.drop k)=l0.length-(k+sz (l0.drop k))∧cap-k-sz (l0.drop k)=cap-(k+sz (l0.drop k))∧off+k+sz (l0.drop k)=off+(k+sz (l0.drop k))∧Z.length+1≤k+sz (l0.drop k)∧l0.length-k-sz (l0.drop k)<l0.length-k):=⟨by omega,by omega,by omega,by omega,by omega⟩
     have HKS:Hid (k+sz (l0.drop k)<l0.length→ ¬cap-k=sz (l0.drop k)):=fun q=>by omega
     generalize hSd:sz (l0.drop k)=S at*
     clear hSd
     generalize hnd:l0.length-k=n at*
     clear hnd
     generalize hcd:cap-k=c at*
     clear hcd
     go_wp2_with (first
      |(go_at_call 21;refine(HRT.out _ _ _ HCD.out).mono ?_;rintro e w2 ⟨rfl,hb⟩;have z0:=aO hb 0 _ rfl;have z1:=aO hb 1 _ rfl;have z2:=aO hb 2 _ rfl;have z3:=aO hb 3 _ rfl;have z4:=aO hb 4 _ rfl;have z5:=aO hb 5 _ rfl;have z6:=aO hb 6 _ rfl;have z7:=aO hb 7 _ rfl;have z8:=aO hb 8 _ rfl;have z9:=aO hb 9 _ rfl;have HBW2:=aa (HBW1.out.trans (hb.mono hs1));have HRW2:=aa (HRW1.out.below hb);have HCR2:=aa (HCR1.out.below hb);have hs2:=HBW2.out.size;have HBX:=aa ((gP w1 #[.int .i64 y.d,.int .i64 y.p,.int .u64 (y.dr:Int),.int .i64 y.n,.slice ca y.code.length cc,.int .u64 (y.bu:Int),.int .u64 (y.pe:Int),.int .i64 y.pr,.int .u8 (y.lv:Int),.int .i64 y.sv] 51).below hb (by simp));clear hb)
      |(go_at_call 33;refine(HRD.out).mono ?_;rintro e w1 ⟨ca,cc,rfl,hcr,hb⟩;have hsw:=hb.size;have hal:=(Below.refl w1.heap.size w1).alloc (Nat.le_refl _) (.cells #[.int .i64 y.d,.int .i64 y.p,.int .u64 (y.dr:Int),.int .i64 y.n,.slice ca y.code.length cc,.int .u64 (y.bu:Int),.int .u64 (y.pe:Int),.int .i64 y.pr,.int .u8 (y.lv:Int),.int .i64 y.sv] 51);have HCR1:=aa ((hcr.low hsz).below hal);have HCD:=aa (iX (hcr.below hal));have HRW1:=aa ((HRW.out.below hb).below hal);have HBW1:=aa ((HBW.out.trans (hb.mono hsz)).trans (hal.mono (by have:=hb.size;omega)));have hs1:=HBW1.out.size;clear hb hcr hal)
      |(go_at_call 32;refine(HLN.out).mono ?_;rintro e w1 ⟨rfl,hw⟩;replace hw:=hw.symm;subst hw))
     have HRW3:Hid (Rw (w2.alloc (.cells #[.int .i64 y.d,.int .i64 y.p,.int .u64 (y.dr:Int),.int .i64 y.n,.slice ca y.code.length cc,.int .u64 (y.bu:Int),.int .u64 (y.pe:Int),.int .i64 y.pr,.int .u8 (y.lv:Int),.int .i64 y.sv] 51)).drew w.heap.size 51 (.slice va vl vc) Z):=⟨lS (World.ownsRow.alloc HRW2.out.row _) rfl,fun z hz=>⟨lS (World.ownsRow.alloc (HRW2.out.qC z hz).1 _) rfl,(HRW2.out.qC z hz).2⟩⟩
     have HCR3:Hid (dA (w2.alloc (.cells #[.int .i64 y.d,.int .i64 y.p,.int .u64 (y.dr:Int),.int .i64 y.n,.slice ca y.code.length cc,.int .u64 (y.bu:Int),.int .u64 (y.pe:Int),.int .i64 y.pr,.int .u8 (y.lv:Int),.int .i64 y.sv] 51)).drew w.heap.size (.slice ca y.code.length cc) y.code):=lS (World.ownsRow.alloc HCR2.out _) rfl
     have HBW3:Hid (Below w.heap.size w (w2.alloc (.cells #[.int .i64 y.d,.int .i64 y.p,.int .u64 (y.dr:Int),.int .i64 y.n,.slice ca y.code.length cc,.int .u64 (y.bu:Int),.int .u64 (y.pe:Int),.int .i64 y.pr,.int .u8 (y.lv:Int),.int .i64 y.sv] 51)).drew):=bC (HBW2.out.alloc hs2 _)
     have hs3:w.heap.size≤(w2.alloc (.cells #[.int .i64 y.d,.int .i64 y.p,.int .u64 (y.dr:Int),.int .i64 y.n,.slice ca y.code.length cc,.int .u64 (y.bu:Int),.int .u64 (y.pe:Int),.int .i64 y.pr,.int .u8 (y.lv:Int),.int .i64 y.sv] 51)).drew.heap.size:=HBW3.out.size
     have HNW:Hid (∀j u,(ec y ca cc)[j]? =some u→(w2.alloc (.cells #[.int .i64 y.d,.int .i64 y.p,.int .u64 (y.dr:Int),.int .i64 y.n,.slice ca y.code.length cc,.int .u64 (y.bu:Int),.int .u64 (y.pe:Int),.int .i64 y.pr,.int .u8 (y.lv:Int),.int .i64 y.sv] 51)).drew.cell? ((⟨w2.heap.size,0,none⟩:Addr).add j)=some u):=fH w2 (ec y ca cc) _
     have k0:=(bf (o:= .cells #[.int .i64 y.d,.int .i64 y.p,.int .u64 (y.dr:Int),.int .i64 y.n,.slice ca y.code.length cc,.int .u64 (y.bu:Int),.int .u64 (y.pe:Int),.int .i64 y.pr,.int .u8 (y.lv:Int),.int .i64 y.sv] 51) z0)
     have k1:=(bf (o:= .cells #[.int .i64 y.d,.int .i64 y.p,.int .u64 (y.dr:Int),.int .i64 y.n,.slice ca y.code.length cc,.int .u64 (y.bu:Int),.int .u64 (y.pe:Int),.int .i64 y.pr,.int .u8 (y.lv:Int),.int .i64 y.sv] 51) z1)
     have k2:=(bf (o:= .cells #[.int .i64 y.d,.int .i64 y.p,.int .u64 (y.dr:Int),.int .i64 y.n,.slice ca y.code.length cc,.int .u64 (y.bu:Int),.int .u64 (y.pe:Int),.int .i64 y.pr,.int .u8 (y.lv:Int),.int .i64 y.sv] 51) z2)
     have k3:=(bf (o:= .cells #[.int .i64 y.d,.int .i64 y.p,.int .u64 (y.dr:Int),.int .i64 y.n,.slice ca y.code.length cc,.int .u64 (y.bu:Int),.int .u64 (y.pe:Int),.int .i64 y.pr,.int .u8 (y.lv:Int),.int .i64 y.sv] 51) z3)
     have k4:=(bf (o:= .cells #[.int .i64 y.d,.int .i64 y.p,.int .u64 (y.dr:Int),.int .i64 y.n,.slice ca y.code.length cc,.int .u64 (y.bu:Int),.int .u64 (y.pe:Int),.int .i64 y.pr,.int .u8 (y.lv:Int),.int .i64 y.sv] 51) z4)
     have k5:=(bf (o:= .cells #[.int .i64 y.d,.int .i64 y.p,.int .u64 (y.dr:Int),.int .i64 y.n,.slice ca y.code.length cc,.int .u64 (y.bu:Int),.int .u64 (y.pe:Int),.int .i64 y.pr,.int .u8 (y.lv:Int),.int .i64 y.sv] 51) z5)
     have k6:=(bf (o:= .cells #[.int .i64 y.d,.int .i64 y.p,.int .u64 (y.dr:Int),.int .i64 y.n,.slice ca y.code.length cc,.int .u64 (y.bu:Int),.int .u64 (y.pe:Int),.int .i64 y.pr,.int .u8 (y.lv:Int),.int .i64 y.sv] 51) z6)
     have k7:=(bf (o:= .cells #[.int .i64 y.d,.int .i64 y.p,.int .u64 (y.dr:Int),.int .i64 y.n,.slice ca y.code.length cc,.int .u64 (y.bu:Int),.int .u64 (y.pe:Int),.int .i64 y.pr,.int .u8 (y.lv:Int),.int .i64 y.sv] 51) z7)
     have k8:=(bf (o:= .cells #[.int .i64 y.d,.int .i64 y.p,.int .u64 (y.dr:Int),.int .i64 y.n,.slice ca y.code.length cc,.int .u64 (y.bu:Int),.int .u64 (y.pe:Int),.int .i64 y.pr,.int .u8 (y.lv:Int),.int .i64 y.sv] 51) z8)
     have k9:=(bf (o:= .cells #[.int .i64 y.d,.int .i64 y.p,.int .u64 (y.dr:Int),.int .i64 y.n,.slice ca y.code.length cc,.int .u64 (y.bu:Int),.int .u64 (y.pe:Int),.int .i64 y.pr,.int .u8 (y.lv:Int),.int .i64 y.sv] 51) z9)
     have HKB:Hid (∀w3:World,(w2.alloc (.cells #[.int .i64 y.d,.int .i64 y.p,.int .u64 (y.dr:Int),.int .i64 y.n,.slice ca y.code.length cc,.int .u64 (y.bu:Int),.int .u64 (y.pe:Int),.int .i64 y.pr,.int .u8 (y.lv:Int),.int .i64 y.sv] 51)).drew.grownBy w3 (Value.ownBlock (.slice va vl vc))→w3.cell? ⟨w1.heap.size,0,none⟩=some (.int .i64 y.d)∧w3.cell? ⟨w1.heap.size,1,none⟩=some (.int .i64 y.p)∧w3.cell? ⟨w1.heap.size,2,none⟩=some (.int .u64 (y.dr:Int))∧w3.cell? ⟨w1.heap.size,3,none⟩=some (.int .i64 y.n)∧w3.cell? ⟨w1.heap.size,4,none⟩=some (.slice ca y.code.length cc)∧w3.cell? ⟨w1.heap.size,5,none⟩=some (.int .u64 (y.bu:Int))∧w3.cell? ⟨w1.heap.size,6,none⟩=some (.int .u64 (y.pe:Int))∧w3.cell? ⟨w1.heap.size,7,none⟩=some (.int .i64 y.pr)∧w3.cell? ⟨w1.heap.size,8,none⟩=some (.int .u8 (y.lv:Int))∧w3.cell? ⟨w1.heap.size,9,none⟩=some (.int .i64 y.sv)):=by
      intro w3 hg
      have hne:Value.ownBlock (.slice va vl vc)≠some w1.heap.size:=fun q=>by
       have q1:=(HRW.out.row.lt _ q).2
       omega
      have hlt:w1.heap.size<(w2.alloc (.cells #[.int .i64 y.d,.int .i64 y.p,.int .u64 (y.dr:Int),.int .i64 y.n,.slice ca y.code.length cc,.int .u64 (y.bu:Int),.int .u64 (y.pe:Int),.int .i64 y.pr,.int .u8 (y.lv:Int),.int .i64 y.sv] 51)).drew.heap.size:=by have:=HBX.out.lt;simp;omega
      have hc:=fun (i:Nat)=>World.cell?_of_block (a:=⟨w1.heap.size,i,none⟩) (hg.block w1.heap.size hlt (fun q=>hne q.symm))
      exact⟨(hc 0).trans k0,(hc 1).trans k1,(hc 2).trans k2,(hc 3).trans k3,(hc 4).trans k4,(hc 5).trans k5,(hc 6).trans k6,(hc 7).trans k7,(hc 8).trans k8,(hc 9).trans k9⟩
     by_cases hcS:c=S
     ·subst hcS
      refine wp_region_held_drew (S:=(fun W=>W.cell? ⟨w1.heap.size,0,none⟩=some (.int .i64 y.d)∧W.cell? ⟨w1.heap.size,1,none⟩=some (.int .i64 y.p)∧W.cell? ⟨w1.heap.size,2,none⟩=some (.int .u64 (y.dr:Int))∧W.cell? ⟨w1.heap.size,3,none⟩=some (.int .i64 y.n)∧W.cell? ⟨w1.heap.size,4,none⟩=some (.slice ca y.code.length cc)∧W.cell? ⟨w1.heap.size,5,none⟩=some (.int .u64 (y.bu:Int))∧W.cell? ⟨w1.heap.size,6,none⟩=some (.int .u64 (y.pe:Int))∧W.cell? ⟨w1.heap.size,7,none⟩=some (.int .i64 y.pr)∧W.cell? ⟨w1.heap.size,8,none⟩=some (.int .u8 (y.lv:Int))∧W.cell? ⟨w1.heap.size,9,none⟩=some (.int .i64 y.sv))) (by kernel_rfl) ⟨z0,z1,z2,z3,z4,z5,z6,z7,z8,z9⟩ (fun hHeld=> ?_)
      refine aE 0 (v:= ?_) rfl ?v0 ?_
      case v0=>(intro w hSw;(try dsimp only at hSw);go_simp;try with_reducible rfl)
      try simp only[ao]
      refine aE 1 (v:= ?_) rfl ?v1 ?_
      case v1=>(intro w hSw;(try dsimp only at hSw);go_simp;try with_reducible rfl)
      try simp only[ao]
      refine aE 4 (v:= ?_) rfl ?v4 ?_
      case v4=>(intro w hSw;(try dsimp only at hSw);go_simp;try with_reducible rfl)
      try simp only[ao]
      refine aE 5 (v:= ?_) rfl ?v5 ?_
      case v5=>(intro w hSw;(try dsimp only at hSw);go_simp;try with_reducible rfl)
      try simp only[ao]
      refine aE 6 (v:= ?_) rfl ?v6 ?_
      case v6=>(intro w hSw;(try dsimp only at hSw);go_simp;try with_reducible rfl)
      try simp only[ao]
      refine aZ 2 rfl (fun K hK=> ?_)
      go_simp
      refine hK.out _ _ ?_ (fun hHeld=> ?_)
      ·exact⟨k0,k1,k2,k3,k4,k5,k6,k7,k8,k9⟩
      clear hK K
      try simp only[ao]
      refine aZ 3 rfl (fun K hK=> ?_)
      refine bq _ (by rfl) _ _ _ (by rfl) w.heap.size 51 i0 _ 10 96 Tryz.underlying52 hi hz0 hz1 hz2 rfl (by omega) (.slice va vl vc) Z.length _ (by rfl) HRW3.out.row ⟨w2.heap.size,0,none⟩ 1 1 (ec y ca cc) (by rfl) rfl HNW.out (tZ _ _ _) (by unfold maxLen;omega) (by omega) hs3 ?_
      intro v3 w3 ho3 hg3
      obtain⟨va3,vl3,vc3,rfl⟩:=eR ho3
      have HRW4:=aa (HRW3.out.snoc (by decide) y ca cc HCR3.out HON.out.2.2.2.2 HON.out.2.2.2.1 ho3 hg3)
      have HBW4:=aa (HBW3.out.grown hg3 hs3 (fun k hk=>(HRW3.out.row.lt k hk).1))
      have k':=HKB.out _ hg3
      clear ho3 hg3
      refine hK.out _ _ ?_ (fun hHeld=> ?_)
      ·exact k'
      clear hK K
      try simp only[ao]
      refine aE 7 (v:= ?_) rfl ?v7 ?_
      case v7=>(intro w hSw;(try dsimp only at hSw);go_simp;try with_reducible rfl)
      try simp only[ao]
      refine aE 8 (v:= ?_) rfl ?v8 ?_
      case v8=>(intro w hSw;(try dsimp only at hSw);go_simp;try with_reducible rfl)
      try simp only[Act.put,List.setIfInBounds_toArray,List.set_cons_zero,List.getElem_toArray,List.getElem_cons_succ,List.getElem_cons_zero]
      refine wpAnyH_done (by kernel_rfl) ?_ _
      skip
      go_wp2
      refine⟨⟨Z++[(y,ca,cc)],k+c,⟨lb,off+k,none⟩,by rw[List.map_append];exact HON.out.1,HON.out.2.2.1,by rw[List.map_append];exact HON.out.2.1,fun q=>absurd rfl (HKS.out q),?_,HRW4.out,HBW4.out,by rw[List.length_append];exact HE1.out.2.2.2.1⟩,HE1.out.2.2.2.2⟩
      have q1:=HE1.out.1
      have q2:=HE1.out.2.1
      rw[Nat.sub_self] at q2
      rw[←q1,←q2]
     ·have hcS': ¬(c:Int)=(S:Int):=by omega
      refine wp_region_held_drew (S:=(fun W=>W.cell? ⟨w1.heap.size,0,none⟩=some (.int .i64 y.d)∧W.cell? ⟨w1.heap.size,1,none⟩=some (.int .i64 y.p)∧W.cell? ⟨w1.heap.size,2,none⟩=some (.int .u64 (y.dr:Int))∧W.cell? ⟨w1.heap.size,3,none⟩=some (.int .i64 y.n)∧W.cell? ⟨w1.heap.size,4,none⟩=some (.slice ca y.code.length cc)∧W.cell? ⟨w1.heap.size,5,none⟩=some (.int .u64 (y.bu:Int))∧W.cell? ⟨w1.heap.size,6,none⟩=some (.int .u64 (y.pe:Int))∧W.cell? ⟨w1.heap.size,7,none⟩=some (.int .i64 y.pr)∧W.cell? ⟨w1.heap.size,8,none⟩=some (.int .u8 (y.lv:Int))∧W.cell? ⟨w1.heap.size,9,none⟩=some (.int .i64 y.sv))) (by kernel_rfl) ⟨z0,z1,z2,z3,z4,z5,z6,z7,z8,z9⟩ (fun hHeld=> ?_)
      refine aE 0 (v:= ?_) rfl ?v0 ?_
      case v0=>(intro w hSw;(try dsimp only at hSw);go_simp;try with_reducible rfl)
      try simp only[ao]
      refine aE 1 (v:= ?_) rfl ?v1 ?_
      case v1=>(intro w hSw;(try dsimp only at hSw);go_simp;try with_reducible rfl)
      try simp only[ao]
      refine aE 4 (v:= ?_) rfl ?v4 ?_
      case v4=>(intro w hSw;(try dsimp only at hSw);go_simp;try with_reducible rfl)
      try simp only[ao]
      refine aE 5 (v:= ?_) rfl ?v5 ?_
      case v5=>(intro w hSw;(try dsimp only at hSw);go_simp;try with_reducible rfl)
      try simp only[ao]
      refine aE 6 (v:= ?_) rfl ?v6 ?_
      case v6=>(intro w hSw;(try dsimp only at hSw);go_simp;try with_reducible rfl)
      try simp only[ao]
      refine aZ 2 rfl (fun K hK=> ?_)
      go_simp
      refine hK.out _ _ ?_ (fun hHeld=> ?_)
      ·exact⟨k0,k1,k2,k3,k4,k5,k6,k7,k8,k9⟩
      clear hK K
      try simp only[ao]
      refine aZ 3 rfl (fun K hK=> ?_)
      refine bq _ (by rfl) _ _ _ (by rfl) w.heap.size 51 i0 _ 10 96 Tryz.underlying52 hi hz0 hz1 hz2 rfl (by omega) (.slice va vl vc) Z.length _ (by rfl) HRW3.out.row ⟨w2.heap.size,0,none⟩ 1 1 (ec y ca cc) (by rfl) rfl HNW.out (tZ _ _ _) (by unfold maxLen;omega) (by omega) hs3 ?_
      intro v3 w3 ho3 hg3
      obtain⟨va3,vl3,vc3,rfl⟩:=eR ho3
      have HRW4:=aa (HRW3.out.snoc (by decide) y ca cc HCR3.out HON.out.2.2.2.2 HON.out.2.2.2.1 ho3 hg3)
      have HBW4:=aa (HBW3.out.grown hg3 hs3 (fun k hk=>(HRW3.out.row.lt k hk).1))
      have k':=HKB.out _ hg3
      clear ho3 hg3
      refine hK.out _ _ ?_ (fun hHeld=> ?_)
      ·exact k'
      clear hK K
      try simp only[ao]
      refine aE 7 (v:= ?_) rfl ?v7 ?_
      case v7=>(intro w hSw;(try dsimp only at hSw);go_simp;try with_reducible rfl)
      try simp only[ao]
      refine aE 8 (v:= ?_) rfl ?v8 ?_
      case v8=>(intro w hSw;(try dsimp only at hSw);go_simp;try with_reducible rfl)
      try simp only[Act.put,List.setIfInBounds_toArray,List.set_cons_zero,List.getElem_toArray,List.getElem_cons_succ,List.getElem_cons_zero]
      refine wpAnyH_done (by kernel_rfl) ?_ _
      skip
      go_wp2
      refine⟨⟨Z++[(y,ca,cc)],k+S,⟨lb,off+k+S,none⟩,by rw[List.map_append];exact HON.out.1,HON.out.2.2.1,by rw[List.map_append];exact HON.out.2.1,fun _=>by rw[Nat.add_assoc],?_,HRW4.out,HBW4.out,by rw[List.length_append];exact HE1.out.2.2.2.1⟩,HE1.out.2.2.2.2⟩
      have q1:=HE1.out.1
      have q2:=HE1.out.2.1
      rw[←q1,←q2]
    ·have HRT:=aa (fun W ca cc (h:lE W ca y.code)=>nY W y ca cc h hys hrt)
     have HBAD:Hid (nH l0 (Z.map (·.1))):=⟨hRt,l0.drop k,by intro q;rw[q] at hlen;simp at hlen;omega,xa hle (hy▸hrt),hl0⟩
     have HBW:=aa hbel
     have HVL:Hid (vl=(Z.map (·.1)).length):=by rw[List.length_map];exact HV.out
     clear hRt hl0 hba hRw hbel hBr hsm hsh hrt hy htl hle
     generalize sz (l0.drop k)=S at*
     generalize l0.length-k=n at*
     generalize cap-k=c at*
     go_wp2_with (first
      |(go_at_call 21;refine(HRT.out _ _ _ HCD.out).mono ?_;rintro e w2 ⟨rfl,hb⟩;have HBW2:=aa (HBW1.out.trans (hb.mono hs1));clear hb)
      |(go_at_call 33;refine(HRD.out).mono ?_;rintro e w1 ⟨ca,cc,rfl,hcr,hb⟩;have hal:=(Below.refl w1.heap.size w1).alloc (Nat.le_refl _) (.cells #[.int .i64 y.d,.int .i64 y.p,.int .u64 (y.dr:Int),.int .i64 y.n,.slice ca y.code.length cc,.int .u64 (y.bu:Int),.int .u64 (y.pe:Int),.int .i64 y.pr,.int .u8 (y.lv:Int),.int .i64 y.sv] 51);have HCD:=aa (iX (hcr.below hal));have HBW1:=aa ((HBW.out.trans (hb.mono hsz)).trans (hal.mono (by have:=hb.size;omega)));have hs1:=HBW1.out.size;clear hb hcr hal)
      |(go_at_call 32;refine(HLN.out).mono ?_;rintro e w1 ⟨rfl,hw⟩;replace hw:=hw.symm;subst hw))
     go_step3
     exact⟨rfl,Z.map (·.1),vl,va,vc,_,_,_,_,_,_,_,_,_,_,_,_,_,_,_,_,_,_,_,_,_,_,_,_,_,_,_,_,_,_,_,_,_,rfl,HVL.out,HBAD.out,HBW2.out⟩
  ·have hkl':l0.length-k=0:=by omega
   rw[hkl']
   have HG:Hid (Good l0 (Z.map (·.1))):=by
    refine⟨hRt,?_⟩
    have q:l0.drop k=[]:=List.drop_eq_nil_of_le (by omega)
    rw[q,List.append_nil] at hl0
    exact hl0
   have HRW:=aa hRw
   have HBW:=aa hbel
   clear hRt hl0 hba hRw hbel hkl' hkl
   go_wp2
   simp only[Exit.jump]
   go_ret3
   exact⟨HBW.out,.inl ⟨Z,_,HG.out,rfl,HRW.out⟩⟩
theorem qE (w:World) (a:Option Addr) (cap:Nat):Calls Tryz.prog 19 #[.slice a 0 cap] w (yV w 51 []):=by
 have HG:Hid (Good [] (List.map (·.1) ([]:Zs))):=⟨fun x hx=>(by cases hx),rfl⟩
 go_enter Tryz.func19,Tryz.ntmps19
 go_wp2
 refine wp_scope_jumps 0 (fun _ _=>False) (fun _ _=>0) rfl ?_ (fun _ _ h=>h.elim)
 go_wp2
 go_loopw [0,5] (fun s0 s5 wr=>s0= .slice a 0 cap∧s5= .slice none 0 0∧wr=w) (fun _ _ _=>0)
 case atStart=>exact⟨rfl,rfl,rfl⟩
 case round=>
  obtain⟨rfl,rfl,rfl⟩:=hrel
  go_wp2
  simp only[Exit.jump]
  go_ret3
  exact⟨Below.refl _ _,.inl ⟨[],_,HG.out,rfl,zf _ _ _⟩⟩
def Fit (w:World) (z:En×Option Addr×Nat):Prop:=(∀W,Below w.heap.size w W→lE W z.2.1 z.1.code)∧z.1.code.length<9223372036854775808∧(z.1.code.length≤64∨(z.1.code.length≤z.2.2∧z.2.2<9223372036854775808))∧pV z.1
theorem DU {w0 w:World} {base:Nat} {T:TypeId} {v:Value} {Z:Zs} (hr:w.ownsRow base T 10 v Z.length (dq Z)) (hb:Below w0.heap.size w0 w) (hf: ∀z∈Z,Fit w0 z): ∃a cap,v= .slice a Z.length cap∧F1 w a (Z.map (·.1)):=by
 rcases hr.2 with ⟨rfl,h0⟩|⟨g,cap,cur,rfl,_,hgg,hn,hm,hc,ht⟩
 ·have:Z=[]:=List.length_eq_zero_iff.1 h0
  subst this
  exact⟨none,0,rfl,.inl rfl⟩
 ·refine⟨_,cap,rfl,.inr ⟨g,0,rfl,(Array.getElem?_eq_some_iff.1 hgg).1,fun j x hj=> ?_⟩⟩
  rw[List.getElem?_map] at hj
  cases hz:Z[j]? with
  |none=>rw[hz] at hj;simp at hj
  |some z=>
   rw[hz] at hj
   simp at hj
   subst hj
   have hcell: ∀i u,(ec z.1 z.2.1 z.2.2)[i]? =some u→w.cell? ⟨g,0+j*10+i,none⟩=some u:=by
    intro i u hu
    have q:=ic Z j z hz i u hu
    have hi:=(List.getElem?_eq_some_iff.1 hu).1
    rw[iz] at hi
    have hj':=(List.getElem?_eq_some_iff.1 hz).1
    rw[←ht,List.getElem?_take_of_lt (by omega)] at q
    unfold World.cell?
    simp only[hgg]
    rw[show 0+j*10+i=j*10+i by omega]
    simpa using q
   obtain⟨q1,q2,q3,q4⟩:=hf z (List.mem_of_getElem? hz)
   exact⟨z.2.1,z.2.2,hcell 0 _ rfl,hcell 1 _ rfl,hcell 2 _ rfl,hcell 3 _ rfl,hcell 4 _ rfl,hcell 5 _ rfl,hcell 6 _ rfl,hcell 7 _ rfl,hcell 8 _ rfl,hcell 9 _ rfl,q1 w hb,q2,q3,q4⟩
@[go_sem] theorem E3 (d p dr n bu pe pr lv sv : Int) (a : Option Addr) (l c : Nat) (w : World) : (Instr.build 79 #[(0, .int .i64 d), (1, .int .i64 p), (2, .int .u64 dr), (3, .int .i64 n), (4, .slice a l c), (5, .int .u64 bu), (6, .int .u64 pe), (7, .int .i64 pr), (8, .int .u8 lv), (9, .int .i64 sv)]).run Tryz.prog w = .ok (.agg #[.int .i64 d, .int .i64 p, .int .u64 dr, .int .i64 n, .slice a l c, .int .u64 bu, .int .u64 pe, .int .i64 pr, .int .u8 lv, .int .i64 sv]) w := run_build w 79 _ _ (by kernel_rfl)
def GH (w:World) (L:List En) (e:Ending) (w':World):Prop:= ∃v,e= .returned (.tuple #[v,.int .i64 0])∧w'.ownsRow w.heap.size 5 1 v (all L).length (dz (all L))∧Below w.heap.size w w'
theorem Ea.yes {w w':World} {L:List En} {e:Ending} (h:Ea w L e w') (hr: ∀x∈L,aU x):GH w L e w':=by
 obtain⟨hb,⟨_,v,he,ho⟩|⟨hn,_⟩⟩:=h
 ·exact⟨v,he,ho,hb⟩
 ·exact(hn hr).elim
def FD (w:World) (T:TypeId) (L:List En) (e:Ending) (w':World):Prop:= ∃Z v,Z.map (·.1)=L∧e= .returned (.tuple #[v,.int .i64 0,.int .i64 0])∧Rw w' w.heap.size T v Z∧Below w.heap.size w w'
theorem yV.qa {w w':World} {T:TypeId} {l:List Nat} {L:List En} {e:Ending} (h:yV w T l e w') (hg:Good l L):FD w T L e w':=by
 obtain⟨hb,⟨Z,v,hG,he,hR⟩|⟨M,hB,_⟩⟩:=h
 ·exact⟨Z,v,xN hG hg,he,hR,hb⟩
 ·exact(yY hg hB).elim
theorem uW {L:List En} (h:gL L): ∀y∈all L,y<256:=by
 intro y hy
 unfold all at hy
 rw[List.mem_flatMap] at hy
 obtain⟨x,hx,hy⟩:=hy
 exact qF (h x hx).1 (h x hx).2 y hy
theorem Ak (W:World) (base:Nat) (v:Value) (ys:List Nat) (h:W.ownsRow base 5 1 v ys.length (dz ys)) (hs: ∀y∈ys,y<256) (hm:ys.length<100000):
  Calls Tryz.prog 19 #[v] W (yV W 51 ys):=by
 by_cases h0:ys.length=0
 ·have:ys=[]:=List.length_eq_zero_iff.1 h0
  subst this
  rcases h.2 with ⟨rfl,_⟩|⟨g,cap,cur,rfl,_⟩
  ·exact qE W _ _
  ·exact qE W _ _
 ·obtain⟨g,cap,rfl,q1,q2,_,q4,q5⟩:=Aj h (by omega) hs
  exact yM W g 0 cap ys ⟨q4,fun j hj=>(q5 j hj).1,hs⟩ (by omega) hm q1 (by unfold maxLen at q2;omega)
@[go_sem] theorem EC (w : World) : (Instr.build 51 #[(0, .int .i64 2), (3, .int .i64 1)]).run Tryz.prog w = .ok (.agg #[.int .i64 2, .int .i64 0, .int .u64 0, .int .i64 1, .slice none 0 0, .int .u64 0, .int .u64 0, .int .i64 0, .int .u8 0, .int .i64 0]) w := run_build w 51 _ _ (by kernel_rfl)
end Go.Proofs.YtdbailcdlngemaaGreatDoor.Ex

/- YtnmhcgpnhlhcgaaGreatDoorKd: of the texts S9 S10 S10e S10d S11 S11r S12 S13 S13r S14 S15 what is wanted. -/
import Derived.Test.YtnmhcgpnhlhcgaaGreatDoorK0
import Derived.Test.YtnmhcgpnhlhcgaaGreatDoorKc
import Derived.Lib.EndianBits
import Derived.Test.YtnmhcgpnhlhcgaaGreatDoorKa
import Derived.Deep.RegionWith
import Derived.ScopeJumps
import Derived.WalkMore
import Derived.OrdersHeld
set_option maxHeartbeats 16000000
set_option maxRecDepth 100000
set_option linter.unusedVariables false
set_option linter.defProp false
set_option linter.unusedSimpArgs false
namespace Go.Proofs.YtnmhcgpnhlhcgaaGreatDoor.Ex
open Go.RowKit Go.Lib
structure Bl (w:World) (lb off:Nat) (l:List Nat):Prop where
 lt:lb<w.heap.size
 at_: ∀j,j<l.length->w.cell? (af lb (off+j))=some (aA ((l.getD j 0:Nat):Int))
 small: ∀y∈l,y<256
def Bl.below {w w':World} {lb a:Nat} {l:List Nat} (h:Bl w lb a l) (b:aC w w'):Bl w' lb a l:=
 ⟨i8 h.lt b.size,fun j c=>(b.cell (p:=(af lb (a+j))) h.lt).trans (h.at_ j c),h.small⟩
def Bl.drop {w:World} {b a:Nat} {l:List Nat} (h:Bl w b a l) (k:Nat):Bl w b (a+k) (l.drop k):=
 ⟨h.lt,fun j c=>by
  have:=h.at_ (k+j) y_
  grind,(dm h.small k).2⟩
def Bl.take {w:World} {lb a:Nat} {l:List Nat} (h:Bl w lb a l) (k:Nat):Bl w lb a (l.take k):=
 ⟨h.lt,fun j b=>by
  rw[List.length_take] at b
  rw[h.at_ j z_]
  grind,(dm h.small k).1⟩
def Bl.Px {w:World} {b a:Nat} {l:List Nat} (h:Bl w b a l):Ki w (some (af b a)) l.length (fun j=>l.getD j 0):=
 .inr ⟨b,a,rfl,h.lt,fun j c=>⟨h.at_ j c,h.small _ (ft c)⟩⟩
theorem BF (l:List Nat) (x:Nat):dQ (l++[x])=dQ l*256+x:=by simp[dQ]
def CJ {l:List Nat} {j:Nat} (h:j<l.length):dQ (l.take (j+1))=dQ (l.take j)*256+l.getD j 0:=by
 grind[List.take_add_one,Ex.BF]
def PU (y x:Nat) (a:y<72057594037927936) (b:x<256):bits .or .u64 ((y:Int)*256) (x:Int)=y*256+(x:Int):=by
 refine bits_join .u64 64 x_ (fun n d c=>by simp[IntKind.wrap,IntKind.bits,IntKind.signed];omega) 8 _ _ z_ z_ z_ z_ z_ z_
def xL {l:List Nat} (a: ∀y∈l,y<256) {j:Nat} (c:j<8):dQ (l.take j)<72057594037927936:=by
 have e:=mR (dm a j).1
 have b:(l.take j).length<=7:=y_
 have d:256^(l.take j).length<=256^7:=Nat.pow_le_pow_right z_ b
 omega
theorem FA (w:World) (g b d:Nat) (l:List Nat) (h:Bl w g b l) (p:l.length<=8):
  vS 112 #[.slice (some (af g b)) l.length d] w (aj (dQ l:Int)):=by
 have f:=aa h
 clear h
 refine ge ?_
 go_wp2
 go_loopw [3,8] (fun s i wr=> ∃(j:Nat),j<=l.length/\i=ab j/\s=aj (dQ (l.take j):Int)/\wr=w) (fun _ i _=>l.length-(intOf i).toNat)
 case atStart=>exact⟨0,z_,rfl,by rfl,rfl⟩
 case round=>
  obtain⟨j,q,rfl,rfl,rfl⟩:=hrel
  by_cases a:j<l.length
  ·have c:(j:Int)<l.length:=by omega
   have n:=f.out.at_ j a
   have e:=aa (CJ a)
   have m:=f.out.small _ (ft a)
   have k:=xL f.out.small (j:=j) z_
   generalize l.getD j 0=x at n e m
   generalize dQ (l.take j)=y at e k|-
   have o:=PU y x k m
   go_wp2
   refine⟨⟨j+1,z_,by go_num,?_,trivial⟩,by simp[intOf];omega⟩
   rw[e.out]
   congr 1
  ·have c: ¬(j:Int)<l.length:=by omega
   rw[show l.take j=l from y_]
   go_wp2
   go_ret
   simp
theorem ye (w:World) (o i n:Nat) (l:List Nat) (h:Bl w o i l) (p:0<l.length) (t:l.length<100000):
  vS 66 #[.slice (some (af o i)) l.length n] w (ab (sz l:Int)):=by
 have d:=h.at_ 0 p
 have g:=h.small _ (ft p)
 have r:0<(l.length:Int):=z_
 simp only[Nat.add_zero] at d
 by_cases c:l.getD 0 0=1
 ·have a:Hid (sz l=10):=by show _=_;unfold sz eN;grind
  rw[c] at d
  clear c h g
  refine ge ?_
  go_wp2
  go_ret
  exact⟨by rw[a.out];rfl,rfl⟩
 by_cases f:l.getD 0 0=2
 ·have a:Hid (sz l=3):=by show _=_;unfold sz eN;grind
  rw[f] at d
  clear c f h g
  refine ge ?_
  go_wp2
  go_ret
  exact⟨by rw[a.out];rfl,rfl⟩
 by_cases e:l.getD 0 0=3
 ·by_cases u:2<=l.length
  ·have s:=h.at_ 1 z_
   have q:l.getD 1 0<256:=h.small _ y_
   have a:Hid (sz l=2+4*l.getD 1 0):=by show _=_;unfold sz eN;grind
   rw[e] at d
   generalize l.getD 1 0=b at*
   have k:2<=(l.length:Int):=z_
   clear c f e h g
   refine ge ?_
   go_wp2
   go_ret
   refine⟨?_,rfl⟩
   rw[a.out]
   show Ending.returned (ab _)=_
   grind
  ·have a:Hid (sz l=2):=by show _=_;unfold sz eN;grind
   rw[e] at d
   have k: ¬2<=(l.length:Int):=z_
   clear c f e h g
   refine ge ?_
   go_wp2
   go_ret
   exact⟨by rw[a.out];rfl,rfl⟩
 by_cases j:l.getD 0 0=4
 ·have a:Hid (sz l=17):=by show _=_;unfold sz eN;grind
  rw[j] at d
  clear c f e j h g
  refine ge ?_
  go_wp2
  go_ret
  exact⟨by rw[a.out];rfl,rfl⟩
 by_cases m:l.getD 0 0=5
 ·have a:Hid (sz l=4):=by show _=_;unfold sz eN;grind
  rw[m] at d
  clear c f e j m h g
  refine ge ?_
  go_wp2
  go_ret
  exact⟨by rw[a.out];rfl,rfl⟩
 have a:Hid (sz l=1):=by show _=_;unfold sz eN;grind
 generalize l.getD 0 0=b at*
 have A:((b:Int)==1)=false:=y_
 have z:((b:Int)==2)=false:=y_
 have y:((b:Int)==3)=false:=y_
 have x:((b:Int)==4)=false:=y_
 have v:((b:Int)==5)=false:=y_
 clear c f e j m h
 refine ge ?_
 go_wp2
 go_ret
 exact⟨by rw[a.out];rfl,rfl⟩
def yP (w:World) (a:Option Addr) (b d:Nat) (X:Nat->Nat) (c:Ki w a b X) (y:b<=d) (j:d<9223372036854775808) (C:X 0<256) (q:b=1+4*X 0) (p:Rt (X 0) (mL X) (jx X)):
  aB 113 #[.slice a b d] w fun e w'=> ∃s g,e=aS #[.slice s (X 0) g,ab 0]/\w'.ownsRow w.heap.size 83 2 (.slice s (X 0) g) (X 0) (aP (mL X) (jx X) (X 0))/\aC w w':=by
 have z:=aa (ph w a b d X c y j)
 have A:=aa (fun k r f x=>iQ k r (X 0) f z_ (mL X) (jx X) x p)
 have D:=aa q
 clear c q p
 refine ge ?_
 go_wp2_with (first
  |(go_at_call 155;refine(z.out).mono ?_;rintro e k ⟨v,rfl,c,u⟩;have h:k.ownsRow w.heap.size 83 2 v (X 0) (aP (mL X) (jx X) (X 0)):=(by grind[RowKit.Hid.out]);obtain⟨r,f,rfl,i⟩:=j9 h;have n:=aa i;have l:=aa h;have t:=aa c;clear c u h i)
  |(go_at_call 153;refine(A.out _ _ _ n.out).mono ?_;rintro e B ⟨rfl,c⟩;have o:=aa (t.out.trans (c.mono t.out.size));have m:=aa (gP l.out c);clear c))
 go_ret2
 exact⟨_,_,rfl,m.out,o.out⟩
def Bx.frozen {W:World} {k:Nat} {c:Array Value} {t:TypeId} (h:Bx W k c t) (i:Nat):W.frozen? (af k i)=false:=by
 unfold World.frozen?
 rw[show W.heap[((af k i):Addr).block]? =_ from h]
 simp
theorem Kb {m:List Nat} (b:m.length=1+4*m.getD 0 0) (a:uK (ji m)):pX m=ji m:=by unfold pX;grind
def Es {m:List Nat} (h: ¬(m.length=1+4*m.getD 0 0/\uK (ji m))):pX m=[]:=by unfold pX;grind
def Ef (m:List Nat):uK (ji m)↔Rt (m.getD 0 0) (mL (fun j=>m.getD j 0)) (jx (fun j=>m.getD j 0)):=by
 unfold uK
 rw[fY]
 exact⟨fun h=>vW h (fun i hi=>kB m hi),fun h=>vW h (fun i hi=>⟨(kB m hi).1.symm,(kB m hi).2.symm⟩)⟩
def oF {O R b a:Nat->Int}: ∀k,(∀i,i<k->O i=b i/\R i=a i)->aP O R k=aP b a k
 |0,_=>rfl
 |k+1,h=>by simp only[aP,oF k (fun i hi=>h i z_),(h k z_).1,(h k z_).2]
def eZ (w:World) (base:Nat) (v:Value) (c:List (Int×Int)):Prop:=w.ownsRow base 83 2 v c.length (aP (cO c) (cR c) c.length)
theorem Gq {w:World} {a:Nat} {v:Value} {m:List Nat} (h:w.ownsRow a 83 2 v (m.getD 0 0) (aP (mL (fun j=>m.getD j 0)) (jx (fun j=>m.getD j 0)) (m.getD 0 0))):eZ w a v (ji m):=by
 unfold eZ
 rw[fY,oF _ (fun i hi=>kB m hi)]
 exact h
theorem gS (w:World) (a:Nat):eZ w a (.slice none 0 0) []:=World.ownsRow_nil _ _ _ _
def eZ.vC {w:World} {base:Nat} {v:Value} {c:List (Int×Int)} (h:eZ w base v c): ∃a b,v= .slice a c.length b/\qe w a c:=j9 h
def eZ.set {w:World} {base:Nat} {v:Value} {c:List (Int×Int)} (h:eZ w base v c) (a:Addr) (u:Value) (b:a.block<base):eZ (w.setCell a u) base v c:=lV h a u b
theorem eZ.low {w:World} {base a:Nat} {v:Value} {c:List (Int×Int)} (h:eZ w base v c) (b:a<=base):eZ w a v c:=AL h b
def ld {w:World} {b:Nat} {a:Option Addr} {d:Nat} {c:List (Int×Int)} (h:eZ w b (.slice a c.length d) c):qe w a c:=by
 obtain⟨i,g,e,f⟩:=h.vC
 simp only[Value.slice.injEq,true_and] at e
 rw[e.1]
 exact f
def PT (W:World) (g o c:Nat) (m:List Nat) (h:Bl W g o m) (d:m.length<=c) (a:c<9223372036854775808):
  aB 113 #[.slice (some (af g o)) m.length c] W fun e w'=> ∃v x,e=aS #[v,ab x]/\eZ w' W.heap.size v (pX m)/\aC W w':=by
 by_cases f:m.length=1+4*m.getD 0 0
 ·have k:m.getD 0 0<256:=h.small _ y_
  by_cases i:uK (ji m)
  ·refine(yP W _ m.length c (fun j=>m.getD j 0) h.Px d a k f ((Ef m).1 i)).mono fun e w' b=> ?_
   grind[Ex.Kb,Ex.Gq]
  ·refine(uz W _ m.length c (fun j=>m.getD j 0) h.Px d a k f (fun q=>i ((Ef m).2 q))).mono fun e w' b=> ?_
   obtain⟨l,n⟩:=b
   rw[Es y_]
   grind[Ex.gS]
 ·refine(xJ W _ m.length c (fun j=>m.getD j 0) h.Px d a f).mono fun e w' b=> ?_
  obtain⟨l,n⟩:=b
  rw[Es z_]
  grind[Ex.gS]
def kK (W:World) (a o n c:Nat) (l:List Nat) (h:Bl W a o l) (b:l.length=n) (d:n<=8):
  vS 112 #[.slice (some (af a o)) n c] W (aj (dQ l:Int)):=by
 grind[Ex.FA]
theorem Li (w:World) (f e a:Nat) (l:List Nat) (d:Bl w f e l) (g:l.length=10) (I:10<=a) (A:a<9223372036854775808) (r:l.getD 0 0=1):
  vQ 67 #[.slice (some (af f e)) 10 a] w (.agg #[ab 1,ab (l.getD 1 0:Int),aj (dQ (l.drop 2):Int),ab 0,.slice none 0 0,aj 0,aj 0,ab 0,aA 0,ab 0]):=by
 have C:10<=(a:Int):=z_
 have B: ¬(a:Int)=1:=z_
 have z: ¬a=1:=z_
 have y: ¬a=2:=z_
 have x:=d.lt
 have p:=d.at_ 0 z_
 rw[r] at p
 simp only[Nat.add_zero] at p
 have b:=aa fun (c:Array Value) (E:Array Value) (t:TypeId) (s:TypeId)=>dz w c E t s
 have G:=d.at_ 1 z_
 have u:=d.small _ (ft (l:=l) (j:=1) z_)
 generalize l.getD 1 0=H at*
 have k:=aa fun W (D:aC w W)=>by
  have:=((d.below D).drop 1).drop 1
  rwa [List.drop_drop] at this
 have HL:Hid ((l.drop 2).length=8):=by show _=_;simp[g]
 have F:Hid (dQ (l.drop 2)<18446744073709551616):=by
  have q:=mR (dm d.small 2).2
  rw[HL.out] at q
  show _<_
  omega
 generalize l.drop 2=m at*
 have i:=aa (fun W f o n c l h v g=>kK W f o n c l h v g)
 clear d r
 refine ge ?_
 go_wp2_with fail
 go_region_with (go_at_call 112;refine cS (i.out _ _ _ 8 _ m (k.out _ (bX (b.out _ _ _ _))) HL.out z_) ?_)
 all_goals go_wp2
 all_goals simp[bodyPost,results,Tryz.results67,go_sem]
 all_goals first
  |exact bX (b.out _ _ _ _)
  |exact b.out _ _ _ _
  |exact⟨z_,bX (b.out _ _ _ _)⟩
theorem LB (w:World) (f d a:Nat) (l:List Nat) (e:Bl w f d l) (g:l.length=3) (F:3<=a) (A:a<9223372036854775808) (r:l.getD 0 0=2):
  vQ 67 #[.slice (some (af f d)) 3 a] w (.agg #[ab 2,ab 0,aj 0,ab (dQ (l.drop 1):Int),.slice none 0 0,aj 0,aj 0,ab 0,aA 0,ab 0]):=by
 have C:3<=(a:Int):=z_
 have B: ¬(a:Int)=1:=z_
 have z: ¬a=1:=z_
 have y: ¬a=2:=z_
 have x:=e.lt
 have k:=e.at_ 0 z_
 rw[r] at k
 simp only[Nat.add_zero] at k
 have b:=aa fun (c:Array Value) (E:Array Value) (t:TypeId) (s:TypeId)=>dz w c E t s
 have j:=aa fun W (D:aC w W)=>(e.below D).drop 1
 have HL:Hid ((l.drop 1).length=2):=by show _=_;simp[g]
 have u:dQ (l.drop 1)<65536:=by
  have q:=mR (dm e.small 1).2
  grind
 have p:(dQ (l.drop 1):Int)<9223372036854775808:=z_
 generalize l.drop 1=m at*
 have i:=aa (fun W f o n c l h v g=>kK W f o n c l h v g)
 clear e r
 refine ge ?_
 go_wp2_with (go_at_call 112;refine cS (i.out _ _ _ 2 _ m (j.out _ (b.out _ _ _ _)) HL.out z_) ?_)
 all_goals simp[bodyPost,results,Tryz.results67,go_sem]
 all_goals first
  |exact bX (b.out _ _ _ _)
  |exact b.out _ _ _ _
  |exact⟨z_,bX (b.out _ _ _ _)⟩
theorem LC (w:World) (g d a:Nat) (l:List Nat) (e:Bl w g d l) (i:l.length=17) (H:17<=a) (C:a<9223372036854775808) (r:l.getD 0 0=4):
  vQ 67 #[.slice (some (af g d)) 17 a] w (.agg #[ab 4,ab 0,aj 0,ab 0,.slice none 0 0,aj (dQ ((l.drop 1).take 8):Int),aj (dQ (l.drop 9):Int),ab 0,aA 0,ab 0]):=by
 have E:17<=(a:Int):=z_
 have D: ¬(a:Int)=1:=z_
 have B: ¬a=1:=z_
 have A: ¬a=2:=z_
 have z: ¬a=9:=z_
 have x:=e.lt
 have q:=e.at_ 0 z_
 rw[r] at q
 simp only[Nat.add_zero] at q
 have b:=aa fun (c:Array Value) (F:Array Value) (t:TypeId) (s:TypeId)=>dz w c F t s
 have p:=aa fun W (j:aC w W)=>((e.below j).drop 1).take 8
 have k:=aa fun W (j:aC w W)=>by
  have:=((e.below j).drop 1).drop 8
  rwa [List.drop_drop] at this
 have HL:Hid (((l.drop 1).take 8).length=8):=by show _=_;simp[i]
 have G:Hid ((l.drop 9).length=8):=by show _=_;simp[i]
 generalize (l.drop 1).take 8=m at*
 generalize l.drop 9=u at*
 have f:=aa (fun W g o n c l h v i=>kK W g o n c l h v i)
 clear e r
 refine ge ?_
 go_wp2_with fail
 go_region_with (first
  |(have y:=hdone;go_at_call 112;refine cS (f.out _ _ _ 8 _ u (k.out _ (bX (b.out _ _ _ _))) G.out z_) ?_)
  |(go_at_call 112;refine cS (f.out _ _ _ 8 _ m (p.out _ (bX (b.out _ _ _ _))) HL.out z_) ?_;have hdone:=trivial))
 all_goals go_wp2
 all_goals simp[bodyPost,results,Tryz.results67,go_sem]
 all_goals first
  |exact bX (b.out _ _ _ _)
  |exact b.out _ _ _ _
  |exact⟨z_,bX (b.out _ _ _ _)⟩
theorem MX (w:World) (f e a:Nat) (l:List Nat) (b:Bl w f e l) (i:l.length=4) (J:4<=a) (y:a<9223372036854775808) (k:l.getD 0 0=5):
  vQ 67 #[.slice (some (af f e)) 4 a] w (.agg #[ab 5,ab 0,aj 0,ab 0,.slice none 0 0,aj 0,aj 0,ab (l.getD 1 0:Int),aA (l.getD 2 0:Int),ab ((l.getD 3 0:Int)-1)]):=by
 have A:4<=(a:Int):=z_
 have z: ¬(a:Int)=1:=z_
 have x: ¬a=1:=z_
 have v: ¬a=2:=z_
 have u:=b.lt
 have g:=b.at_ 0 z_
 rw[k] at g
 simp only[Nat.add_zero] at g
 have d:=aa fun (c:Array Value) (B:Array Value) (t:TypeId) (m:TypeId)=>dz w c B t m
 have F:=b.at_ 1 z_
 have r:=b.small _ (ft (l:=l) (j:=1) z_)
 have E:=b.at_ 2 z_
 have q:=b.small _ (ft (l:=l) (j:=2) z_)
 have D:=b.at_ 3 z_
 have p:=b.small _ (ft (l:=l) (j:=3) z_)
 generalize l.getD 1 0=I at*
 generalize l.getD 2 0=H at*
 generalize l.getD 3 0=G at*
 have C:=aa (fun W f o n c l h s i=>kK W f o n c l h s i)
 clear b k
 refine ge ?_
 go_wp2_with fail
 go_region
 all_goals go_wp2
 all_goals simp[bodyPost,results,Tryz.results67,go_sem]
 all_goals first
  |exact bX (d.out _ _ _ _)
  |exact d.out _ _ _ _
  |exact⟨z_,bX (d.out _ _ _ _)⟩
theorem Mf (w:World) (k f cap:Nat) (l:List Nat) (m:Bl w k f l) (hl:2<=l.length) (S:l.length<100000) (hc:l.length<=cap) (Z:cap<9223372036854775808) (z:l.getD 0 0=3):
  aB 67 #[.slice (some (af k f)) l.length cap] w fun e w'=> ∃B A,e= .returned (.agg #[ab 3,ab 0,aj 0,ab 0,.slice B (pX (l.drop 1)).length A,aj 0,aj 0,ab 0,aA 0,ab 0])/\eZ w' w.heap.size (.slice B (pX (l.drop 1)).length A) (pX (l.drop 1))/\aC w w':=by
 have a2:(l.length:Int)<=cap:=z_
 have V:0<(l.length:Int):=z_
 have U:1<=(l.length:Int):=z_
 have a0: ¬(cap:Int)=1:=z_
 have Y: ¬cap=1:=z_
 have T:=m.lt
 have s:=m.at_ 0 z_
 rw[z] at s
 simp only[Nat.add_zero] at s
 have p:=aa fun (c:Array Value) (d:Array Value) (t:TypeId) (g:TypeId)=>dz w c d t g
 have HD:Hid (∀W,aC w W->aB 113 #[.slice (some (af k (f+1))) (l.length-1) (cap-1)] W fun e w'=> ∃o d x,e=aS #[.slice o (pX (l.drop 1)).length d,ab x]/\eZ w' W.heap.size (.slice o (pX (l.drop 1)).length d) (pX (l.drop 1))/\aC W w'):=by
  intro W h
  have q:=PT W k (f+1) (cap-1) (l.drop 1) ((m.below h).drop 1) y_ z_
  rw[List.length_drop] at q
  refine q.mono fun e w' X=> ?_
  obtain⟨v,x,he,R,a3⟩:=X
  obtain⟨o,d,rfl,_⟩:=R.vC
  grind
 have r:Hid (∀W j:World,∀(c d:Array Value) (t g:TypeId),W=((w.alloc (.cells c t)).alloc (.cells d g))->aC W j->Bx j w.heap.size c t/\Bx j (w.heap.size+1) d g/\aC w j/\W.heap.size=w.heap.size+2):=by
  rintro W j c d t g rfl h
  have E:=(jN w c t).alloc (.cells d g)
  have n:=jN (w.alloc (.cells c t)) d g
  rw[show(w.alloc (.cells c t)).heap.size=w.heap.size+1 by simp] at n
  exact⟨E.below h E.lt,n.below h n.lt,(dz w c d t g).trans (h.mono (by simp;omega)),q_⟩
 clear m z
 generalize pX (l.drop 1)=C at*
 refine ge ?_
 go_wp2_with (go_at_call 113;refine(HD.out _ (p.out _ _ _ _)).mono ?_;rintro e j ⟨F,D,x1,rfl,i,h⟩;obtain⟨b,a,y,u⟩:=r.out _ _ _ _ _ _ rfl h;rw[u] at i;have Q:=b.cell 0 _ rfl;have q0:=a.cell 0 _ rfl;have f0:=b.frozen 0;have g0:=a.frozen 0;have P:=b.cell 1 _ rfl;have q1:=a.cell 1 _ rfl;have f1:=b.frozen 1;have g1:=a.frozen 1;have O:=b.cell 2 _ rfl;have q2:=a.cell 2 _ rfl;have f2:=b.frozen 2;have g2:=a.frozen 2;have N:=b.cell 3 _ rfl;have q3:=a.cell 3 _ rfl;have f3:=b.frozen 3;have g3:=a.frozen 3;have M:=b.cell 4 _ rfl;have q4:=a.cell 4 _ rfl;have f4:=b.frozen 4;have g4:=a.frozen 4;have L:=b.cell 5 _ rfl;have q5:=a.cell 5 _ rfl;have f5:=b.frozen 5;have g5:=a.frozen 5;have J:=b.cell 6 _ rfl;have q6:=a.cell 6 _ rfl;have f6:=b.frozen 6;have g6:=a.frozen 6;have I:=b.cell 7 _ rfl;have q7:=a.cell 7 _ rfl;have f7:=b.frozen 7;have g7:=a.frozen 7;have H:=b.cell 8 _ rfl;have q8:=a.cell 8 _ rfl;have f8:=b.frozen 8;have g8:=a.frozen 8;have G:=b.cell 9 _ rfl;have q9:=a.cell 9 _ rfl;have f9:=b.frozen 9;have g9:=a.frozen 9;have HC:=aa i;have HK:=aa y;have a5:=aa b;have a4:=aa a;clear i h b a y u)
 refine bodyPost_ret (v:= .agg #[ab 3,ab 0,aj 0,ab 0,.slice F C.length D,aj 0,aj 0,ab 0,aA 0,ab 0]) ?_ rfl ?_
 ·simp[results,Tryz.results67,go_sem,Q,P,O,N,M,L,J,I,H,G]
 ·refine⟨F,D,rfl,?_,?_⟩
  ·refine eZ.low (base:=w.heap.size+2) ?_ z_
   iterate 11 refine eZ.set ?_ _ _ q_
   exact HC.out
  ·iterate 11 refine nB ?_ _ _ q_
   exact HK.out
def MF (w:World) (k d a:Nat) (l:List Nat) (f:Bl w k d l) (A:l.length=1) (B:1<=a) (q:a<9223372036854775808) (b:Nat) (n:l.getD 0 0=b) (y:b≠1) (x:b≠2) (v:b≠3) (u:b≠4) (s:b≠5):
  vQ 67 #[.slice (some (af k d)) 1 a] w (.agg #[ab b,ab 0,aj 0,ab 0,.slice none 0 0,aj 0,aj 0,ab 0,aA 0,ab 0]):=by
 have r:1<=(a:Int):=z_
 have p:=f.lt
 have i:=f.at_ 0 z_
 have h:=f.small _ (ft (l:=l) (j:=0) z_)
 rw[n] at i h
 simp only[Nat.add_zero] at i
 have e:=aa fun (c:Array Value) (z:Array Value) (t:TypeId) (o:TypeId)=>dz w c z t o
 have G:((b:Int)==1)=false:=y_
 have F:((b:Int)==2)=false:=y_
 have E:((b:Int)==3)=false:=y_
 have D:((b:Int)==4)=false:=y_
 have C:((b:Int)==5)=false:=y_
 clear f n y x v u s
 by_cases g:a=1
 ·subst g
  refine ge ?_
  go_wp2
  simp[bodyPost,results,Tryz.results67,go_sem]
  exact e.out _ _ _ _
 ·have m: ¬(a:Int)=1:=by omega
  refine ge ?_
  go_wp2
  simp[bodyPost,results,Tryz.results67,go_sem]
  exact e.out _ _ _ _
def ec (x:En) (a:Option Addr) (c:Nat):List Value:=[ab x.d,ab x.p,aj x.dr,ab x.n,.slice a x.code.length c,aj x.bu,aj x.pe,ab x.pr,aA x.lv,ab x.sv]
abbrev Zs:=List (En×Option Addr×Nat)
def iP (Z:Zs):List Value:=Z.flatMap (fun z=>ec z.1 z.2.1 z.2.2)
theorem rv (Z Y:Zs):iP (Z++Y)=iP Z++iP Y:=by simp[iP]
theorem ya (z:En×Option Addr×Nat):iP [z]=ec z.1 z.2.1 z.2.2:=by rfl
theorem sa (x:En) (a:Option Addr) (c:Nat):(ec x a c).length=10:=rfl
def nh: ∀(Z:Zs) (j:Nat) (z:En×Option Addr×Nat),Z[j]? =some z-> ∀i u,(ec z.1 z.2.1 z.2.2)[i]? =some u->(iP Z)[j*10+i]? =some u
 |[],j,z,h=>by simp at h
 |y::Z,0,z,h=>by
  grind[Ex.iP]
 |y::Z,j+1,z,h=>by
  intro i u a
  have:=nh Z j z y_ i u a
  show(ec y.1 y.2.1 y.2.2++iP Z)[(j+1)*10+i]? =some u
  grind[Ex.sa]
def Ax (x:En) (a:Option Addr) (c:Nat): ∀u∈ec x a c,u.oneCell'=true:=by
 intro u b
 simp only[ec,List.mem_cons,List.not_mem_nil,or_false] at b
 rcases b with rfl|rfl|rfl|rfl|rfl|rfl|rfl|rfl|rfl|rfl<;>rfl
structure Rw (w:World) (base:Nat) (T:TypeId) (v:Value) (Z:Zs):Prop where
 row:w.ownsRow base T 10 v Z.length (iP Z)
 vC: ∀z∈Z,eZ w base (.slice z.2.1 z.1.code.length z.2.2) z.1.code/\z.1.code.length<=64/\zf z.1
def Ga (w:World) (a:Nat) (T:TypeId):Rw w a T (.slice none 0 0) []:=⟨World.ownsRow_nil _ _ _ _,fun z hz=>by cases hz⟩
def eZ.below {w w':World} {base:Nat} {v:Value} {c:List (Int×Int)} (h:eZ w base v c) (a:aC w w'):eZ w' base v c:=gP h a
def eZ.grown {w w':World} {b base:Nat} {v i:Value} {c:List (Int×Int)} {T:TypeId} {s n:Nat} {j:List Value} (h:eZ w b v c) (k:w.ownsRow base T s i n j) (o:T≠83) (l:w.grownBy w' i.ownBlock):eZ w' b v c:=by
 refine⟨h.1,?_⟩
 rcases h.2 with p|⟨g,f,e,rfl,m,a,d⟩
 ·grind
 ·refine .inr ⟨g,f,e,rfl,m,(l.block g (zW0.1 a).1 (fun q=> ?_)).trans a,d⟩
  exact yk k (c:=e) a o q.symm
def Rw.below {w w':World} {base:Nat} {T:TypeId} {v:Value} {Z:Zs} (h:Rw w base T v Z) (a:aC w w'):Rw w' base T v Z:=
 ⟨gP h.row a,fun z hz=>⟨(h.vC z hz).1.below a,(h.vC z hz).2⟩⟩
def Rw.snoc {w d:World} {b:Nat} {T:TypeId} {v f:Value} {Z:Zs} (h:Rw w b T v Z) (i:T≠83) (x:En) (a:Option Addr) (c:Nat) (j:eZ w b (.slice a x.code.length c) x.code) (e:x.code.length<=64) (hw:zf x)
  (k:d.ownsRow b T 10 f (Z.length+1) (iP Z++ec x a c)) (g:w.grownBy d v.ownBlock):Rw d b T f (Z++[(x,a,c)]):=by
 refine⟨?_,fun z hz=> ?_⟩
 ·grind[Ex.rv,Ex.ya]
 ·rcases List.mem_append.1 hz with hz|hz
  ·exact⟨(h.vC z hz).1.grown h.row i g,(h.vC z hz).2⟩
  ·obtain rfl:z=(x,a,c):=by grind
   exact⟨j.grown h.row i g,e,hw⟩
def Rw.Qi {w:World} {d:Nat} {T:TypeId} {v:Value} {Z:Zs} (h:Rw w d T v Z): ∃a c,v= .slice a Z.length c/\M8 w a (Z.map (·.1)):=by
 rcases h.row.2 with ⟨rfl,B⟩|⟨g,c,r,rfl,A,f,s,t,y,o⟩
 ·have:Z=[]:=y_
  subst this
  exact⟨none,0,rfl,.inl rfl⟩
 ·refine⟨_,c,rfl,.inr ⟨g,0,rfl,(zW0.1 f).1,fun j x e=> ?_⟩⟩
  rw[List.getElem?_map] at e
  cases hz:Z[j]? with
  |none=>grind
  |some z=>
   rw[hz] at e
   simp at e
   subst e
   have b: ∀i u,(ec z.1 z.2.1 z.2.2)[i]? =some u->w.cell? (af g (0+j*10+i))=some u:=by
    intro i u k
    have q:=nh Z j z hz i u k
    have hi:=(i6.1 k).1
    rw[sa] at hi
    have p:=(i6.1 hz).1
    rw[<-o,List.getElem?_take_of_lt z_] at q
    unfold World.cell?
    grind
   obtain⟨n,m,l⟩:=h.vC z (i9 hz)
   exact⟨z.2.1,z.2.2,b 0 _ rfl,b 1 _ rfl,b 2 _ rfl,b 3 _ rfl,b 4 _ rfl,b 5 _ rfl,b 6 _ rfl,b 7 _ rfl,b 8 _ rfl,b 9 _ rfl,ld n,z_,.inl m,l⟩
def MV (w:World) (c b a:Nat) (l:List Nat) (q:Bl w c b l) (k:l.length=sz l) (x:l.length<100000) (z:l.length<=a) (f:a<9223372036854775808) (y:En) (j:y=iK l):
  aB 67 #[.slice (some (af c b)) l.length a] w fun e w'=> ∃i h,e= .returned (.agg #[ab y.d,ab y.p,aj y.dr,ab y.n,.slice i y.code.length h,aj y.bu,aj y.pe,ab y.pr,aA y.lv,ab y.sv])/\eZ w' w.heap.size (.slice i y.code.length h) y.code/\aC w w':=by
 subst j
 by_cases v:l.getD 0 0=1
 ·grind[Ex.sz,Ex.eN,Ex.iK,Ex.dB,Ex.Li,Calls.mono,Ex.gS]
 by_cases u:l.getD 0 0=2
 ·grind[Ex.sz,Ex.eN,Ex.iK,Ex.dg,Ex.LB,Calls.mono,Ex.gS]
 by_cases t:l.getD 0 0=3
 ·grind[Ex.sz,Ex.eN,Ex.iK,Ex.cK,Ex.Mf]
 by_cases s:l.getD 0 0=4
 ·grind[Ex.sz,Ex.eN,Ex.iK,Ex.cT,Ex.LC,Calls.mono,Ex.gS]
 by_cases r:l.getD 0 0=5
 ·grind[Ex.sz,Ex.eN,Ex.iK,Ex.bV,Ex.MX,Calls.mono,Ex.gS]
 have g:l.length=1:=by rw[k];unfold sz eN;grind
 have e:iK l=⟨(l.getD 0 0:Int),0,0,0,[],0,0,0,0,0⟩:=by unfold iK;grind
 rw[e,g]
 exact(MF w c b a l q g z_ f _ rfl v u t s r).mono fun e w' ⟨m,o⟩=>⟨none,0,m,gS _ _,o⟩
def nR (w:World) (T:TypeId) (l:List Nat) (e:Ending) (a:World):Prop:=
 aC w a/\((∃Z v,Good l (Z.map (·.1))/\e=aS #[v,ab 0,ab 0]/\Rw a w.heap.size T v Z)\/(∃L:List En,nU l L/\e=aS #[.slice none 0 0,ab 3,ab L.length]))
theorem zw:(Tryz.prog.info? 86).map (fun i=>(i.zero,i.size,i.bytes))=some (some (.agg #[ab 0,ab 0,aj 0,ab 0,.slice none 0 0,aj 0,aj 0,ab 0,aA 0,ab 0]),10,96):=by rfl
def LG {l:List Nat} (h:bj (iK l)):(iK l).code.length<=64:=by
 rcases h with ⟨e,_⟩|⟨e,_⟩|⟨e,h⟩|e|⟨e,_⟩
 ·rw[e];simp[dB]
 ·rw[e];simp[dg]
 ·exact(eU h).2.1
 ·rw[e];simp[cT]
 ·rw[e];simp[bV]
def CP (l:List Nat):(iK l).code.length<9223372036854775808:=by
 unfold iK
 repeat' split
 all_goals try(simp[dB,dg,cT,bV];done)
 ·show(pX _).length<_
  unfold pX
  split
  ·rename_i h
   have:=(eU h.2).2.1
   omega
  ·simp
def Jh {a:List Nat} {L:List En} {k:Nat} (j:k<a.length) (g: ∀y∈a,y<256) (e:gu L) (i:a=all L++a.drop k) (h:sz (a.drop k)<=(a.drop k).length) (d:bj (iK ((a.drop k).take (sz (a.drop k))))):
  gu (L++[iK ((a.drop k).take (sz (a.drop k)))])/\a=all (L++[iK ((a.drop k).take (sz (a.drop k)))])++a.drop (k+sz (a.drop k))/\k+sz (a.drop k)<=a.length/\zf (iK ((a.drop k).take (sz (a.drop k)))):=by
 obtain⟨c,f⟩:=JU y_ h d
 refine⟨fun x b=> ?_,?_,y_,c⟩
 ·rcases List.mem_append.1 b with b|b
  ·exact e x b
  grind
 grind[Ex.uC,List.drop_drop]
def bD {w:World} {o:Obj} {a:Addr} {u:Value} (h:w.cell? a=some u):(w.alloc o).drew.cell? a=some u:=((i4 w.heap.size w).alloc aT o|>.cell (p:=a) (i7 w _ h)).trans h
def FP (w:World) (lb t r:Nat) (b:List Nat) (hB:Bl w lb t b) (h0:0<b.length) (hm:b.length<100000) (U:b.length<=r) (g9:r<9223372036854775808):
  Calls Tryz.prog 32 #[.slice (some ⟨lb,t,none⟩) b.length r] w (nR w 86 b):=by
 obtain⟨i0,hi,e5,e4,e3⟩:=info_parts zw
 have f2:=aa hB
 clear hB
 refine ge ?_
 go_wp2
 refine wp_scope_jumps 0 (fun a' w'=> ∃(L:List En) (nv:Nat) (av:Option Addr) (cv:Nat) (u0 u1 u2 u3 u4 u6 u7 u8 u9 e2 e1 e0 d9 d8 d7 d6 d5 d4 d3 d2 d1 d0 c9 c8 c7 c6 c5 c4 c3 c2 c1 c0 b9:Value),a'={tmps:= #[u0,u1,u2,u3,u4,.slice av nv cv,u6,u7,u8,u9,e2,e1,e0,d9,d8,d7,d6,d5,d4,d3,d2,d1,d0,c9,c8,c7,c6,c5,c4,c3,c2,c1,c0,b9],defers:=[]}/\nv=L.length/\nU b L/\Below w.heap.size w w') (fun _ _=>0) rfl ?_ ?_
 rotate_left
 ·rintro a' w' ⟨L,nv,av,cv,u0,u1,u2,u3,u4,u6,u7,u8,u9,e2,e1,e0,d9,d8,d7,d6,d5,d4,d3,d2,d1,d0,c9,c8,c7,c6,c5,c4,c3,c2,c1,c0,b9,rfl,rfl,b1,f⟩
  have g4:=aa b1
  have F:=aa f
  clear b1 f
  go_wp2
  simp only[Exit.jump]
  go_ret3
  exact⟨F.out,.inr ⟨L,g4.out,rfl⟩⟩
 go_wp2
 go_loopw [0,5] (fun s0 s5 wr=> ∃(Z:Zs) (k:Nat) (ba:Addr),gu (Z.map (·.1))/\k<=b.length/\b=all (Z.map (·.1))++b.drop k/\(k<b.length->ba=⟨lb,t+k,none⟩)/\s0= .slice (some ba) (b.length-k) (r-k)/\Rw wr w.heap.size 86 s5 Z/\Below w.heap.size w wr/\Z.length<=k) (fun s0 _ _=>lenOf s0)
 case atStart=>exact⟨[],0,⟨lb,t,none⟩,(fun x hx=>(by cases hx)),z_,rfl,fun _=>rfl,rfl,Ga _ _ _,cj,aT⟩
 case round=>
  obtain⟨Z,k,ba,I,hk,C,V,rfl,H,f,h1⟩:=hrel
  obtain⟨va,vl,vc,hv⟩:=kE H.row
  subst hv
  by_cases b5:k<b.length
  ·have e7:=V b5
   subst e7
   have Y:=(f2.out.below f).drop k
   have a6:=f2.out.small
   have G:(b.drop k).length=b.length-k:=List.length_drop
   have b8:Hid (Calls Tryz.prog 66 #[.slice (some ⟨lb,t+k,none⟩) (b.length-k) (r-k)] wr fun e w'=>e= .returned (.int .i64 (sz (b.drop k):Int))/\w'=wr):=by
    have q:=ye wr lb (t+k) (r-k) (b.drop k) Y z_ z_
    rwa [G] at q
   have g8:0<((b.length-k:Nat):Int):=z_
   have h3:1<=sz (b.drop k):=wZ _ _ _
   have HV:Hid (vl=Z.length):=by
    rcases H.row.2 with ⟨q,q0⟩|⟨g,g6,h4,q,_⟩
    ·simp only[Value.slice.injEq] at q;show _=_;omega
    ·simp only[Value.slice.injEq] at q;exact q.2.1
   by_cases a7:(b.drop k).length<sz (b.drop k)
   ·have a4:Hid (nU b (Z.map (·.1))):=⟨I,b.drop k,by intro q;rw[q] at G;simp at G;omega,EV a7,C⟩
    have b4:((b.length-k:Nat):Int)<(sz (b.drop k):Int):=z_
    have F:=aa f
    have b6:Hid (vl=(Z.map (·.1)).length):=by rw[List.length_map];exact HV.out
    clear I C V H f Y a6 a7
    generalize sz (b.drop k)=S at*
    generalize b.length-k=n at*
    go_wp2_with (go_at_call 66;refine cS b8.out ?_)
    go_step3
    exact⟨rfl,Z.map (·.1),vl,va,vc,_,_,_,_,_,_,_,_,_,_,_,_,_,_,_,_,_,_,_,_,_,_,_,_,_,_,_,_,_,_,_,_,_,rfl,b6.out,a4.out,F.out⟩
   ·have T:sz (b.drop k)<=(b.drop k).length:=by omega
    have b4: ¬((b.length-k:Nat):Int)<(sz (b.drop k):Int):=z_
    obtain⟨y,hy⟩: ∃y,y=iK ((b.drop k).take (sz (b.drop k))):=⟨_,rfl⟩
    have a5:((b.drop k).take (sz (b.drop k))).length=sz (b.drop k):=by rw[List.length_take];omega
    have e8:Hid (Calls Tryz.prog 67 #[.slice (some ⟨lb,t+k,none⟩) (sz (b.drop k)) (r-k)] wr fun e w'=> ∃l m,e= .returned (.agg #[.int .i64 y.d,.int .i64 y.p,.int .u64 y.dr,.int .i64 y.n,.slice l y.code.length m,.int .u64 y.bu,.int .u64 y.pe,.int .i64 y.pr,.int .u8 y.lv,.int .i64 y.sv])/\eZ w' wr.heap.size (.slice l y.code.length m) y.code/\Below wr.heap.size wr w'):=by
     have q:=MV wr lb (t+k) (r-k) ((b.drop k).take (sz (b.drop k))) (Y.take _) (by rw[AA T,a5]) z_ z_ z_ y hy
     rwa [a5] at q
    have e6:y.code.length<9223372036854775808:=by rw[hy];exact CP _
    have b3:=f.size
    have h2:(sz (b.drop k):Int)<=((r-k:Nat):Int):=z_
    by_cases M:bj y
    ·have b7:=aa (fun W l m (h:qe W l y.code)=>rm W y l m h e6 M)
     obtain⟨q1,q2,q3,q4⟩:=Jh b5 a6 I C T (hy▸M)
     rw[<-hy] at q1 q2 q4
     have A:Hid (gu (Z.map (·.1)++[y])/\b=all (Z.map (·.1)++[y])++b.drop (k+sz (b.drop k))/\k+sz (b.drop k)<=b.length/\zf y/\y.code.length<=64):=⟨q1,q2,q3,q4,by rw[hy];exact LG (hy▸M)⟩
     have a9:=aa H
     have F:=aa f
     have hZ:Z.length<100000:=z_
     clear q1 q2 q3 q4 I C V H f Y a6 a7 M hy a5 T
     have J:Hid (b.length-k-sz (b.drop k)=b.length-(k+sz (b.drop k))/\r-k-sz (b.drop k)=r-(k+sz (b.drop k))/\t+k+sz (b.drop k)=t+(k+sz (b.drop k))/\Z.length+1<=k+sz (b.drop k)/\b.length-k-sz (b.drop k)<b.length-k):=⟨z_,z_,z_,z_,z_⟩
     have g2:Hid (k+sz (b.drop k)<b.length-> ¬r-k=sz (b.drop k)):=fun q=>by omega
     generalize g1:sz (b.drop k)=S at*
     clear g1
     generalize f8:b.length-k=n at*
     clear f8
     generalize f9:r-k=c at*
     clear f9
     go_wp2_with (first
      |(go_at_call 64;refine(b7.out _ _ _ HCD.out).mono ?_;rintro e R ⟨rfl,s⟩;have z0:=aX s 0 _ rfl;have z1:=aX s 1 _ rfl;have z2:=aX s 2 _ rfl;have z3:=aX s 3 _ rfl;have z4:=aX s 4 _ rfl;have z5:=aX s 5 _ rfl;have z6:=aX s 6 _ rfl;have z7:=aX s 7 _ rfl;have z8:=aX s 8 _ rfl;have z9:=aX s 9 _ rfl;have P:=aa (HBW1.out.trans (s.mono hs1));have a1:=aa (HRW1.out.below s);have f1:=aa (HCR1.out.below s);have f6:=P.out.size;have g3:=aa ((jN w1 #[.int .i64 y.d,.int .i64 y.p,.int .u64 y.dr,.int .i64 y.n,.slice l y.code.length m,.int .u64 y.bu,.int .u64 y.pe,.int .i64 y.pr,.int .u8 y.lv,.int .i64 y.sv] 86).below s q_);clear s)
      |(go_at_call 67;refine(e8.out).mono ?_;rintro e w1 ⟨l,m,rfl,Q,s⟩;have g7:=s.size;have E:=(i4 w1.heap.size w1).alloc aT (.cells #[.int .i64 y.d,.int .i64 y.p,.int .u64 y.dr,.int .i64 y.n,.slice l y.code.length m,.int .u64 y.bu,.int .u64 y.pe,.int .i64 y.pr,.int .u8 y.lv,.int .i64 y.sv] 86);have HCR1:=aa ((Q.low b3).below E);have HCD:=aa (ld (Q.below E));have HRW1:=aa ((a9.out.below s).below E);have HBW1:=aa ((F.out.trans (s.mono b3)).trans (E.mono (by have:=s.size;omega)));have hs1:=HBW1.out.size;clear s Q E)
      |(go_at_call 66;refine cS b8.out ?_))
     have B:Hid (Rw (R.alloc (.cells #[.int .i64 y.d,.int .i64 y.p,.int .u64 y.dr,.int .i64 y.n,.slice l y.code.length m,.int .u64 y.bu,.int .u64 y.pe,.int .i64 y.pr,.int .u8 y.lv,.int .i64 y.sv] 86)).drew w.heap.size 86 (.slice va vl vc) Z):=⟨pA (World.ownsRow.alloc a1.out.row _) rfl,fun z hz=>⟨pA (World.ownsRow.alloc (a1.out.vC z hz).1 _) rfl,(a1.out.vC z hz).2⟩⟩
     have b2:Hid (eZ (R.alloc (.cells #[.int .i64 y.d,.int .i64 y.p,.int .u64 y.dr,.int .i64 y.n,.slice l y.code.length m,.int .u64 y.bu,.int .u64 y.pe,.int .i64 y.pr,.int .u8 y.lv,.int .i64 y.sv] 86)).drew w.heap.size (.slice l y.code.length m) y.code):=pA (World.ownsRow.alloc f1.out _) rfl
     have a3:Hid (Below w.heap.size w (R.alloc (.cells #[.int .i64 y.d,.int .i64 y.p,.int .u64 y.dr,.int .i64 y.n,.slice l y.code.length m,.int .u64 y.bu,.int .u64 y.pe,.int .i64 y.pr,.int .u8 y.lv,.int .i64 y.sv] 86)).drew):=bX (P.out.alloc f6 _)
     have a8:=a3.out.size
     have e9:Hid (∀j u,(ec y l m)[j]? =some u->(R.alloc (.cells #[.int .i64 y.d,.int .i64 y.p,.int .u64 y.dr,.int .i64 y.n,.slice l y.code.length m,.int .u64 y.bu,.int .u64 y.pe,.int .i64 y.pr,.int .u8 y.lv,.int .i64 y.sv] 86)).drew.cell? ((⟨R.heap.size,0,none⟩:Addr).add j)=some u):=rP R (ec y l m) _
     have k0:=(bD (o:= .cells #[.int .i64 y.d,.int .i64 y.p,.int .u64 y.dr,.int .i64 y.n,.slice l y.code.length m,.int .u64 y.bu,.int .u64 y.pe,.int .i64 y.pr,.int .u8 y.lv,.int .i64 y.sv] 86) z0)
     have k1:=(bD (o:= .cells #[.int .i64 y.d,.int .i64 y.p,.int .u64 y.dr,.int .i64 y.n,.slice l y.code.length m,.int .u64 y.bu,.int .u64 y.pe,.int .i64 y.pr,.int .u8 y.lv,.int .i64 y.sv] 86) z1)
     have k2:=(bD (o:= .cells #[.int .i64 y.d,.int .i64 y.p,.int .u64 y.dr,.int .i64 y.n,.slice l y.code.length m,.int .u64 y.bu,.int .u64 y.pe,.int .i64 y.pr,.int .u8 y.lv,.int .i64 y.sv] 86) z2)
     have k3:=(bD (o:= .cells #[.int .i64 y.d,.int .i64 y.p,.int .u64 y.dr,.int .i64 y.n,.slice l y.code.length m,.int .u64 y.bu,.int .u64 y.pe,.int .i64 y.pr,.int .u8 y.lv,.int .i64 y.sv] 86) z3)
     have k4:=(bD (o:= .cells #[.int .i64 y.d,.int .i64 y.p,.int .u64 y.dr,.int .i64 y.n,.slice l y.code.length m,.int .u64 y.bu,.int .u64 y.pe,.int .i64 y.pr,.int .u8 y.lv,.int .i64 y.sv] 86) z4)
     have k5:=(bD (o:= .cells #[.int .i64 y.d,.int .i64 y.p,.int .u64 y.dr,.int .i64 y.n,.slice l y.code.length m,.int .u64 y.bu,.int .u64 y.pe,.int .i64 y.pr,.int .u8 y.lv,.int .i64 y.sv] 86) z5)
     have k6:=(bD (o:= .cells #[.int .i64 y.d,.int .i64 y.p,.int .u64 y.dr,.int .i64 y.n,.slice l y.code.length m,.int .u64 y.bu,.int .u64 y.pe,.int .i64 y.pr,.int .u8 y.lv,.int .i64 y.sv] 86) z6)
     have k7:=(bD (o:= .cells #[.int .i64 y.d,.int .i64 y.p,.int .u64 y.dr,.int .i64 y.n,.slice l y.code.length m,.int .u64 y.bu,.int .u64 y.pe,.int .i64 y.pr,.int .u8 y.lv,.int .i64 y.sv] 86) z7)
     have k8:=(bD (o:= .cells #[.int .i64 y.d,.int .i64 y.p,.int .u64 y.dr,.int .i64 y.n,.slice l y.code.length m,.int .u64 y.bu,.int .u64 y.pe,.int .i64 y.pr,.int .u8 y.lv,.int .i64 y.sv] 86) z8)
     have k9:=(bD (o:= .cells #[.int .i64 y.d,.int .i64 y.p,.int .u64 y.dr,.int .i64 y.n,.slice l y.code.length m,.int .u64 y.bu,.int .u64 y.pe,.int .i64 y.pr,.int .u8 y.lv,.int .i64 y.sv] 86) z9)
     have f0:Hid (∀O:World,(R.alloc (.cells #[.int .i64 y.d,.int .i64 y.p,.int .u64 y.dr,.int .i64 y.n,.slice l y.code.length m,.int .u64 y.bu,.int .u64 y.pe,.int .i64 y.pr,.int .u8 y.lv,.int .i64 y.sv] 86)).drew.grownBy O (Value.ownBlock (.slice va vl vc))->O.cell? ⟨w1.heap.size,0,none⟩=some (.int .i64 y.d)/\O.cell? ⟨w1.heap.size,1,none⟩=some (.int .i64 y.p)/\O.cell? ⟨w1.heap.size,2,none⟩=some (.int .u64 y.dr)/\O.cell? ⟨w1.heap.size,3,none⟩=some (.int .i64 y.n)/\O.cell? ⟨w1.heap.size,4,none⟩=some (.slice l y.code.length m)/\O.cell? ⟨w1.heap.size,5,none⟩=some (.int .u64 y.bu)/\O.cell? ⟨w1.heap.size,6,none⟩=some (.int .u64 y.pe)/\O.cell? ⟨w1.heap.size,7,none⟩=some (.int .i64 y.pr)/\O.cell? ⟨w1.heap.size,8,none⟩=some (.int .u8 y.lv)/\O.cell? ⟨w1.heap.size,9,none⟩=some (.int .i64 y.sv)):=by
      intro O hg
      have f7:Value.ownBlock (.slice va vl vc)≠some w1.heap.size:=fun q=>by
       have q1:=(a9.out.row.lt _ q).2
       omega
      have b4:w1.heap.size<(R.alloc (.cells #[.int .i64 y.d,.int .i64 y.p,.int .u64 y.dr,.int .i64 y.n,.slice l y.code.length m,.int .u64 y.bu,.int .u64 y.pe,.int .i64 y.pr,.int .u8 y.lv,.int .i64 y.sv] 86)).drew.heap.size:=by have:=g3.out.lt;simp;omega
      have U:=fun (i:Nat)=>i5 (a:=⟨w1.heap.size,i,none⟩) (hg.block w1.heap.size b4 (fun q=>f7 q.symm))
      exact⟨(U 0).trans k0,(U 1).trans k1,(U 2).trans k2,(U 3).trans k3,(U 4).trans k4,(U 5).trans k5,(U 6).trans k6,(U 7).trans k7,(U 8).trans k8,(U 9).trans k9⟩
     by_cases g0:c=S
     ·subst g0
      refine wp_region_held_drew (S:=(fun W=>W.cell? ⟨w1.heap.size,0,none⟩=some (.int .i64 y.d)/\W.cell? ⟨w1.heap.size,1,none⟩=some (.int .i64 y.p)/\W.cell? ⟨w1.heap.size,2,none⟩=some (.int .u64 y.dr)/\W.cell? ⟨w1.heap.size,3,none⟩=some (.int .i64 y.n)/\W.cell? ⟨w1.heap.size,4,none⟩=some (.slice l y.code.length m)/\W.cell? ⟨w1.heap.size,5,none⟩=some (.int .u64 y.bu)/\W.cell? ⟨w1.heap.size,6,none⟩=some (.int .u64 y.pe)/\W.cell? ⟨w1.heap.size,7,none⟩=some (.int .i64 y.pr)/\W.cell? ⟨w1.heap.size,8,none⟩=some (.int .u8 y.lv)/\W.cell? ⟨w1.heap.size,9,none⟩=some (.int .i64 y.sv))) (by kernel_rfl) ⟨z0,z1,z2,z3,z4,z5,z6,z7,z8,z9⟩ (fun hHeld=> ?_)
      refine wpAnyH_take (i:=0) (v:= ?_) rfl (by kernel_rfl) (by kernel_rfl) (by kernel_rfl) (fun _ _ _ h=>h) (Or.inl ⟨by rfl,?v0⟩) (by assumption) ?_
      case v0=>(intro w hSw;(try dsimp only at hSw);go_simp;try with_reducible rfl)
      try simp only[cV]
      refine wpAnyH_take (i:=1) (v:= ?_) rfl (by kernel_rfl) (by kernel_rfl) (by kernel_rfl) (fun _ _ _ h=>h) (Or.inl ⟨by rfl,?v1⟩) (by assumption) ?_
      case v1=>(intro w hSw;(try dsimp only at hSw);go_simp;try with_reducible rfl)
      try simp only[cV]
      refine wpAnyH_take (i:=4) (v:= ?_) rfl (by kernel_rfl) (by kernel_rfl) (by kernel_rfl) (fun _ _ _ h=>h) (Or.inl ⟨by rfl,?v4⟩) (by assumption) ?_
      case v4=>(intro w hSw;(try dsimp only at hSw);go_simp;try with_reducible rfl)
      try simp only[cV]
      refine wpAnyH_take (i:=5) (v:= ?_) rfl (by kernel_rfl) (by kernel_rfl) (by kernel_rfl) (fun _ _ _ h=>h) (Or.inl ⟨by rfl,?v5⟩) (by assumption) ?_
      case v5=>(intro w hSw;(try dsimp only at hSw);go_simp;try with_reducible rfl)
      try simp only[cV]
      refine wpAnyH_take (i:=6) (v:= ?_) rfl (by kernel_rfl) (by kernel_rfl) (by kernel_rfl) (fun _ _ _ h=>h) (Or.inl ⟨by rfl,?v6⟩) (by assumption) ?_
      case v6=>(intro w hSw;(try dsimp only at hSw);go_simp;try with_reducible rfl)
      try simp only[cV]
      refine wpAnyH_ready (rs:=[2]) (by kernel_rfl) q_ ?_
      refine AllReadyH.cons rfl (fun K X=> ?_) AllReadyH.nil
      go_simp
      refine X.out _ _ ?_ (fun hHeld=> ?_)
      ·exact⟨k0,k1,k2,k3,k4,k5,k6,k7,k8,k9⟩
      clear X K
      try simp only[cV]
      refine wpAnyH_ready (rs:=[3]) (by kernel_rfl) q_ ?_
      refine AllReadyH.cons rfl (fun K X=> ?_) AllReadyH.nil
      refine dv _ (by rfl) _ _ _ (by rfl) w.heap.size 86 i0 _ 10 96 Tryz.underlying87 hi e5 e4 e3 rfl z_ (.slice va vl vc) Z.length _ (by rfl) B.out.row ⟨R.heap.size,0,none⟩ 1 1 (ec y l m) (by rfl) rfl e9.out (Ax _ _ _) (by unfold maxLen;omega) z_ a8 ?_
      intro v3 O N D
      obtain⟨f5,f3,f4,rfl⟩:=kE N
      have a0:=aa (B.out.snoc x_ y l m b2.out A.out.2.2.2.2 A.out.2.2.2.1 N D)
      have a2:=aa (a3.out.grown D a8 (fun k hk=>(B.out.row.lt k hk).1))
      have k':=f0.out _ D
      clear N D
      refine X.out _ _ ?_ (fun hHeld=> ?_)
      ·exact k'
      clear X K
      try simp only[cV]
      refine wpAnyH_take (i:=7) (v:= ?_) rfl (by kernel_rfl) (by kernel_rfl) (by kernel_rfl) (fun _ _ _ h=>h) (Or.inl ⟨by rfl,?v7⟩) (by assumption) ?_
      case v7=>(intro w hSw;(try dsimp only at hSw);go_simp;try with_reducible rfl)
      try simp only[cV]
      refine wpAnyH_take (i:=8) (v:= ?_) rfl (by kernel_rfl) (by kernel_rfl) (by kernel_rfl) (fun _ _ _ h=>h) (Or.inl ⟨by rfl,?v8⟩) (by assumption) ?_
      case v8=>(intro w hSw;(try dsimp only at hSw);go_simp;try with_reducible rfl)
      try simp only[Act.put,List.setIfInBounds_toArray,List.set_cons_zero,List.getElem_toArray,List.getElem_cons_succ,List.getElem_cons_zero]
      refine wpAnyH_done (by kernel_rfl) ?_ _
      skip
      go_wp2
      refine⟨⟨Z++[(y,l,m)],k+c,⟨lb,t+k,none⟩,by rw[List.map_append];exact A.out.1,A.out.2.2.1,by rw[List.map_append];exact A.out.2.1,fun q=>absurd rfl (g2.out q),?_,a0.out,a2.out,by rw[List.length_append];exact J.out.2.2.2.1⟩,J.out.2.2.2.2⟩
      have q1:=J.out.1
      have q2:=J.out.2.1
      rw[Nat.sub_self] at q2
      rw[<-q1,<-q2]
     ·have g5: ¬(c:Int)=S:=by omega
      refine wp_region_held_drew (S:=(fun W=>W.cell? ⟨w1.heap.size,0,none⟩=some (.int .i64 y.d)/\W.cell? ⟨w1.heap.size,1,none⟩=some (.int .i64 y.p)/\W.cell? ⟨w1.heap.size,2,none⟩=some (.int .u64 y.dr)/\W.cell? ⟨w1.heap.size,3,none⟩=some (.int .i64 y.n)/\W.cell? ⟨w1.heap.size,4,none⟩=some (.slice l y.code.length m)/\W.cell? ⟨w1.heap.size,5,none⟩=some (.int .u64 y.bu)/\W.cell? ⟨w1.heap.size,6,none⟩=some (.int .u64 y.pe)/\W.cell? ⟨w1.heap.size,7,none⟩=some (.int .i64 y.pr)/\W.cell? ⟨w1.heap.size,8,none⟩=some (.int .u8 y.lv)/\W.cell? ⟨w1.heap.size,9,none⟩=some (.int .i64 y.sv))) (by kernel_rfl) ⟨z0,z1,z2,z3,z4,z5,z6,z7,z8,z9⟩ (fun hHeld=> ?_)
      refine wpAnyH_take (i:=0) (v:= ?_) rfl (by kernel_rfl) (by kernel_rfl) (by kernel_rfl) (fun _ _ _ h=>h) (Or.inl ⟨by rfl,?v0⟩) (by assumption) ?_
      case v0=>(intro w hSw;(try dsimp only at hSw);go_simp;try with_reducible rfl)
      try simp only[cV]
      refine wpAnyH_take (i:=1) (v:= ?_) rfl (by kernel_rfl) (by kernel_rfl) (by kernel_rfl) (fun _ _ _ h=>h) (Or.inl ⟨by rfl,?v1⟩) (by assumption) ?_
      case v1=>(intro w hSw;(try dsimp only at hSw);go_simp;try with_reducible rfl)
      try simp only[cV]
      refine wpAnyH_take (i:=4) (v:= ?_) rfl (by kernel_rfl) (by kernel_rfl) (by kernel_rfl) (fun _ _ _ h=>h) (Or.inl ⟨by rfl,?v4⟩) (by assumption) ?_
      case v4=>(intro w hSw;(try dsimp only at hSw);go_simp;try with_reducible rfl)
      try simp only[cV]
      refine wpAnyH_take (i:=5) (v:= ?_) rfl (by kernel_rfl) (by kernel_rfl) (by kernel_rfl) (fun _ _ _ h=>h) (Or.inl ⟨by rfl,?v5⟩) (by assumption) ?_
      case v5=>(intro w hSw;(try dsimp only at hSw);go_simp;try with_reducible rfl)
      try simp only[cV]
      refine wpAnyH_take (i:=6) (v:= ?_) rfl (by kernel_rfl) (by kernel_rfl) (by kernel_rfl) (fun _ _ _ h=>h) (Or.inl ⟨by rfl,?v6⟩) (by assumption) ?_
      case v6=>(intro w hSw;(try dsimp only at hSw);go_simp;try with_reducible rfl)
      try simp only[cV]
      refine wpAnyH_ready (rs:=[2]) (by kernel_rfl) q_ ?_
      refine AllReadyH.cons rfl (fun K X=> ?_) AllReadyH.nil
      go_simp
      refine X.out _ _ ?_ (fun hHeld=> ?_)
      ·exact⟨k0,k1,k2,k3,k4,k5,k6,k7,k8,k9⟩
      clear X K
      try simp only[cV]
      refine wpAnyH_ready (rs:=[3]) (by kernel_rfl) q_ ?_
      refine AllReadyH.cons rfl (fun K X=> ?_) AllReadyH.nil
      refine dv _ (by rfl) _ _ _ (by rfl) w.heap.size 86 i0 _ 10 96 Tryz.underlying87 hi e5 e4 e3 rfl z_ (.slice va vl vc) Z.length _ (by rfl) B.out.row ⟨R.heap.size,0,none⟩ 1 1 (ec y l m) (by rfl) rfl e9.out (Ax _ _ _) (by unfold maxLen;omega) z_ a8 ?_
      intro v3 O N D
      obtain⟨f5,f3,f4,rfl⟩:=kE N
      have a0:=aa (B.out.snoc x_ y l m b2.out A.out.2.2.2.2 A.out.2.2.2.1 N D)
      have a2:=aa (a3.out.grown D a8 (fun k hk=>(B.out.row.lt k hk).1))
      have k':=f0.out _ D
      clear N D
      refine X.out _ _ ?_ (fun hHeld=> ?_)
      ·exact k'
      clear X K
      try simp only[cV]
      refine wpAnyH_take (i:=7) (v:= ?_) rfl (by kernel_rfl) (by kernel_rfl) (by kernel_rfl) (fun _ _ _ h=>h) (Or.inl ⟨by rfl,?v7⟩) (by assumption) ?_
      case v7=>(intro w hSw;(try dsimp only at hSw);go_simp;try with_reducible rfl)
      try simp only[cV]
      refine wpAnyH_take (i:=8) (v:= ?_) rfl (by kernel_rfl) (by kernel_rfl) (by kernel_rfl) (fun _ _ _ h=>h) (Or.inl ⟨by rfl,?v8⟩) (by assumption) ?_
      case v8=>(intro w hSw;(try dsimp only at hSw);go_simp;try with_reducible rfl)
      try simp only[Act.put,List.setIfInBounds_toArray,List.set_cons_zero,List.getElem_toArray,List.getElem_cons_succ,List.getElem_cons_zero]
      refine wpAnyH_done (by kernel_rfl) ?_ _
      skip
      go_wp2
      refine⟨⟨Z++[(y,l,m)],k+S,⟨lb,t+k+S,none⟩,by rw[List.map_append];exact A.out.1,A.out.2.2.1,by rw[List.map_append];exact A.out.2.1,fun _=>by rw[Nat.add_assoc],?_,a0.out,a2.out,by rw[List.length_append];exact J.out.2.2.2.1⟩,J.out.2.2.2.2⟩
      have q1:=J.out.1
      have q2:=J.out.2.1
      rw[<-q1,<-q2]
    ·have b7:=aa (fun W l m (h:qe W l y.code)=>rO W y l m h e6 M)
     have a4:Hid (nU b (Z.map (·.1))):=⟨I,b.drop k,by intro q;rw[q] at G;simp at G;omega,Ds T (hy▸M),C⟩
     have F:=aa f
     have b6:Hid (vl=(Z.map (·.1)).length):=by rw[List.length_map];exact HV.out
     clear I C V H f Y a6 a7 M hy a5 T
     generalize sz (b.drop k)=S at*
     generalize b.length-k=n at*
     generalize r-k=c at*
     go_wp2_with (first
      |(go_at_call 64;refine(b7.out _ _ _ HCD.out).mono ?_;rintro e R ⟨rfl,s⟩;have P:=aa (HBW1.out.trans (s.mono hs1));clear s)
      |(go_at_call 67;refine(e8.out).mono ?_;rintro e w1 ⟨l,m,rfl,Q,s⟩;have E:=(i4 w1.heap.size w1).alloc aT (.cells #[.int .i64 y.d,.int .i64 y.p,.int .u64 y.dr,.int .i64 y.n,.slice l y.code.length m,.int .u64 y.bu,.int .u64 y.pe,.int .i64 y.pr,.int .u8 y.lv,.int .i64 y.sv] 86);have HCD:=aa (ld (Q.below E));have HBW1:=aa ((F.out.trans (s.mono b3)).trans (E.mono (by have:=s.size;omega)));have hs1:=HBW1.out.size;clear s Q E)
      |(go_at_call 66;refine cS b8.out ?_))
     go_step3
     exact⟨rfl,Z.map (·.1),vl,va,vc,_,_,_,_,_,_,_,_,_,_,_,_,_,_,_,_,_,_,_,_,_,_,_,_,_,_,_,_,_,_,_,_,_,rfl,b6.out,a4.out,P.out⟩
  ·have b0:b.length-k=0:=by omega
   rw[b0]
   have HG:Hid (Good b (Z.map (·.1))):=by
    refine⟨I,?_⟩
    have q:b.drop k=[]:=List.drop_eq_nil_of_le z_
    rw[q,List.append_nil] at C
    exact C
   have a9:=aa H
   have F:=aa f
   clear I C V H f b0 b5
   go_wp2
   simp only[Exit.jump]
   go_ret3
   exact⟨F.out,.inl ⟨Z,_,HG.out,rfl,a9.out⟩⟩
def vG (w:World) (a:Option Addr) (b:Nat):aB 32 #[.slice a 0 b] w (nR w 86 []):=by
 have f:Hid (Good [] (List.map (·.1) ([]:Zs))):=⟨fun x e=>(by cases e),rfl⟩
 refine ge ?_
 go_wp2
 refine wp_scope_jumps 0 (fun _ _=>False) (fun _ _=>0) rfl ?_ (fun _ _ h=>h.elim)
 go_wp2
 go_loopw [0,5] (fun d c wr=>d= .slice a 0 b/\c= .slice none 0 0/\wr=w) (fun _ _ _=>0)
 case atStart=>simp
 case round=>
  obtain⟨rfl,rfl,rfl⟩:=hrel
  go_wp2
  simp only[Exit.jump]
  go_ret3
  exact⟨cj,.inl ⟨[],_,f.out,rfl,Ga _ _ _⟩⟩
@[go_sem] theorem N5 (d p h n i f e g b : Int) (a : Option Addr) (l c : Nat) (w : World) : (Instr.build 71 #[(0, ab d), (1, ab p), (2, aj h), (3, ab n), (4, .slice a l c), (5, aj i), (6, aj f), (7, ab e), (8, aA g), (9, ab b)]).run Tryz.prog w = .ok (.agg #[ab d, ab p, aj h, ab n, .slice a l c, aj i, aj f, ab e, aA g, ab b]) w := run_build w 71 _ _ (by kernel_rfl)
def PX (w:World) (L:List En) (e:Ending) (a:World):Prop:= ∃v,e=aS #[v,ab 0]/\a.ownsRow w.heap.size 5 1 v (all L).length (dG (all L))/\aC w a
def JT.yes {w w':World} {L:List En} {e:Ending} (h:JT w L e w') (a: ∀x∈L,bj x):PX w L e w':=by
 obtain⟨f,⟨_,v,d,b⟩|⟨c,_⟩⟩:=h
 ·exact⟨v,d,b,f⟩
 ·exact(c a).elim
def OC (w:World) (T:TypeId) (L:List En) (e:Ending) (a:World):Prop:= ∃Z v,Z.map (·.1)=L/\e=aS #[v,ab 0,ab 0]/\Rw a w.heap.size T v Z/\aC w a
def nR.tu {w w':World} {T:TypeId} {l:List Nat} {L:List En} {e:Ending} (h:nR w T l e w') (a:Good l L):OC w T L e w':=by
 obtain⟨c,⟨Z,v,f,b,d⟩|⟨M,g,_⟩⟩:=h
 ·exact⟨Z,v,El f a,b,d,c⟩
 ·exact(wI a g).elim
def nR.bad {w w':World} {T:TypeId} {l:List Nat} {L:List En} {e:Ending} (h:nR w T l e w') (a:nU l L):e=aS #[.slice none 0 0,ab 3,ab L.length]/\aC w w':=by
 obtain⟨d,⟨Z,v,c,b,f⟩|⟨M,g,b⟩⟩:=h
 ·exact(wI c a).elim
 grind[Ex.Js]
def nR.either {w a:World} {T:TypeId} {l:List Nat} {e:Ending} (h:nR w T l e a):(∃L,Good l L)\/ ∃L,nU l L:=by
 obtain⟨_,⟨Z,v,b,_⟩|⟨M,c,_⟩⟩:=h
 ·grind
 grind
def Bt {L:List En} (h:gu L): ∀y∈all L,y<256:=by
 intro y a
 unfold all at a
 rw[List.mem_flatMap] at a
 obtain⟨x,b,a⟩:=a
 exact vH (h x b).1 (h x b).2 y a
def zS (W:World) (c:Nat) (v:Value) (a:List Nat) (h:W.ownsRow c 5 1 v a.length (dG a)) (d: ∀y∈a,y<256) (l:a.length<100000):
  aB 32 #[v] W (nR W 86 a):=by
 by_cases o:a.length=0
 ·have:a=[]:=y_
  subst this
  rcases h.2 with ⟨rfl,_⟩|⟨g,b,n,rfl,_⟩
  ·exact vG W _ _
  ·exact vG W _ _
 ·obtain⟨g,b,rfl,k,i,_,f,e⟩:=Hq h z_ d
  exact FP W g 0 b a ⟨f,fun j m=>(e j m).1,d⟩ z_ l k (by unfold maxLen at i;omega)
@[go_sem] theorem Nv (w : World) : (Instr.build 86 #[(0, ab 2), (3, ab 1)]).run Tryz.prog w = .ok (.agg #[ab 2, ab 0, aj 0, ab 1, .slice none 0 0, aj 0, aj 0, ab 0, aA 0, ab 0]) w := run_build w 86 _ _ (by rfl)
end Go.Proofs.YtnmhcgpnhlhcgaaGreatDoor.Ex

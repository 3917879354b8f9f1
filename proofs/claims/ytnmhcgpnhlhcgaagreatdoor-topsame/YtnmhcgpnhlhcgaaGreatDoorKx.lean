/- YtnmhcgpnhlhcgaaGreatDoorKx: of the texts Xb2 Xf1 Xf2 Xf3 Xf4 Xf5 Xm1 Xf6 Xf7 Xf8 Xm2 Xc1 what is wanted. -/
import Derived.Test.YtnmhcgpnhlhcgaaGreatDoorK0
import Derived.Test.YtnmhcgpnhlhcgaaGreatDoorKf
import Derived.ProofKit
import Derived.WalkKit
import Derived.RowKit3
import Derived.Test.YtnmhcgpnhlhcgaaGreatDoorKt
import Derived.Maps.AppendAt
import Derived.Test.YtnmhcgpnhlhcgaaGreatDoorKs
import Derived.Test.YtnmhcgpnhlhcgaaGreatDoorKq
import Derived.Test.YtnmhcgpnhlhcgaaGreatDoorKd
import Derived.Laws.Tables
import Derived.Laws.Cells
import Derived.Deep.WholeRow
import Derived.Deep.MidRow
set_option maxHeartbeats 16000000
set_option maxRecDepth 100000
set_option linter.unusedVariables false
set_option linter.defProp false
set_option linter.unusedSimpArgs false
namespace Go.Proofs.YtnmhcgpnhlhcgaaGreatDoor
open Go.RowKit
@[go_sem] theorem Dl {P : Program} {w : World} {a : Addr} {m : Mode} (k : FloatKind) (x : Nat) : (store a (.float k x) m).run P w = stored P w a (.float k x) m := run_store P w a _ m rfl
end Go.Proofs.YtnmhcgpnhlhcgaaGreatDoor
namespace Go.Proofs.YtnmhcgpnhlhcgaaGreatDoor
open Go.RowKit Go.Lib Go.Shelf
attribute [local go_sem ↓] Go.wp_at_zero Go.wp_at_succ
structure RB (w:World) (b:Nat) (ev er:Value) (cn:Nat->Nat) (m:Nat) (pr:Int) (us wh:Nat):Prop where
 c0:w.cell? (ao b)=some ev
 c1:w.cell? (af b 1)=some er
 cn: ∀k,k<15->w.cell? (af b (2+k))=some (ab (cn k:Int))
 c17:w.cell? (af b 17)=some (.float .f64 0)
 c18:w.cell? (af b 18)=some (ak m)
 c19:w.cell? (af b 19)=some (ab pr)
 c20:w.cell? (af b 20)=some (aj us)
 c21:w.cell? (af b 21)=some (aj wh)
 fz: ∀o,w.frozen? (af b o)=false
section
variable {w w':World} {b m:Nat} {ev c:Value} {a:Nat->Nat} {pr:Int} {d wh:Nat}
theorem RB.kept (h:RB w b ev c a m pr d wh) (e:w'.heap[b]? =w.heap[b]?):RB w' b ev c a m pr d wh:=by
 have:=LX e
 exact mK
theorem RB.lt (h:RB w b ev c a m pr d wh):b<w.heap.size:=i7 w _ h.c0
def RB.KX (h:RB w b ev c a m pr d wh) (u:Value):RB (w.setCell (ao b) u) b u c a m pr d wh:=mK
def RB.NJ (h:RB w b ev c a m pr d wh) (u:Value):RB (w.setCell (af b 1) u) b ev u a m pr d wh:=mK
def RB.Oy (h:RB w b ev c a m pr d wh) (i:Nat) (hi:i<15) (e:Nat):RB (w.setCell (af b (2+i)) (ab e)) b ev c (ay a i e) m pr d wh:=mK
def RB.NK (h:RB w b ev c a m pr d wh) (u:Nat):RB (w.setCell (af b 20) (aj u)) b ev c a m pr u wh:=mK
def RB.K9 (h:RB w b ev c a m pr d wh) (u:Nat):RB (w.setCell (af b 21) (aj u)) b ev c a m pr d u:=mK
end
def iH (a:Nat->Nat) (l:List Ev) (k:Nat):Nat:=a k+(l.filter (fun e=>e.k==(k:Int))).length
def fK.cells {w:World} {base:Nat} {v:Value} {l:List Ev} (h:fK w base v l): ∃a b,v= .slice a l.length b/\ ∀(j:Nat) (e:Ev),l[j]? =some e-> ∃g,a=some (ao g)/\v.ownBlock=some g/\g<w.heap.size/\ ∀(i:Nat) (u:Value),(cD e)[i]? =some u->w.cell? (af g (j*6+i))=some u:=by
 rcases h with ⟨r,⟨d,hz⟩|⟨g,b,o,d,s,f,c⟩⟩
 ·grind
 ·refine⟨some (ao g),b,d,fun j e m=>⟨g,rfl,by rw[d];rfl,(zW0.1 f).1,fun i u k=> ?_⟩⟩
  have hi:i<6:=(i6.1 k).1
  have n: ∀(l:List Ev) (j:Nat),l[j]? =some e->(bF l)[j*6+i]? =some u:=by
   intro l
   induction l with
   |nil=>simp
   |cons x l p=>
    intro j q
    show(cD x++bF l)[j*6+i]? =some u
    cases j with
    |zero=>
     grind
    |succ j=>
     rw[v9 (by show 6<=(j+1)*6+i;omega),show(j+1)*6+i-(cD x).length=j*6+i by show(j+1)*6+i-6=_;omega]
     grind
  have:=n l j m
  rw[<-c.2.2.2,List.getElem?_take] at this
  split at this
  ·simp only[World.cell?,f]
   grind
  grind
theorem vI (cn:Nat->Nat):iH cn []=cn:=by rfl
def Cu (a:Nat->Nat) (l:List Ev) (e:Ev) (i:Nat) (hi:e.k=(i:Int)):iH a (l++[e])=ay (iH a l) i (iH a l i+1):=by
 funext k
 by_cases q:k=i
 ·rw[q,aE]
  simp[iH,List.filter_append,hi]
  omega
 ·rw[aq _ _ _ _ q]
  have: ¬(i:Int)=k:=z_
  simp[iH,List.filter_append,hi,this]
def zZ (a:Nat->Nat) (l:List Ev) (k:Nat):iH a l k<=a k+l.length:=by
 unfold iH
 grind
def pT (l l':List Ev):bF (l++l')=bF l++bF l':=by simp[bF]
section
variable {w w':World} {b m d f:Nat} {g i v:Value} {e:Nat->Nat} {n:Int} {j k:Nat} {c l:List Ev}
def IY (h:RB w b g i e m n j k) (he:fK w d g c) (hl:fK w f v l) (hk: ∀z∈l,∃u:Nat,u<15/\z.k=(u:Int)) (T: ∀s,g.ownBlock=some s->s≠b) (a6: ∀s,v.ownBlock=some s->s≠b) (a7:c.length+l.length<=1000000) (c3: ∀s,s<15->e s<=3000000) (a0:d<=w.heap.size):
  aB 105 #[ak b,v] w fun z w'=>z=aS #[]/\ ∃M,RB w' b M i (iH e l) m n j k/\fK w' d M (c++l)/\Fr (fun s=>s=b\/g.ownBlock=some s) w w'/\(M.ownBlock=g.ownBlock\/ ∀s,M.ownBlock=some s->w.heap.size<=s):=by
 obtain⟨a,c7,rfl,b1⟩:=hl.cells
 obtain⟨ae,ce,rfl⟩:=Cb.aJ he
 have HH:=aa h
 have HE:=aa he
 have HL:=aa hl
 have e3:=aa b1
 have f1:=h.lt
 obtain⟨len,V⟩: ∃len,l.length=len:=⟨_,rfl⟩
 have N:=aa V
 rw[V] at a7|-
 clear h he hl b1 V
 refine ge ?_
 go_wp2
 go_loopw [8] (fun iv wr=> ∃t:Nat,t<=len/\iv=ab t/\RB wr b (.slice ae c.length ce) i (iH e (l.take t)) m n j k/\Fr (fun s=>s=b) w wr) (fun iv _=>len-(RowKit.intOf iv).toNat)
 case atStart=>exact⟨0,Nat.zero_le _,rfl,by rw[List.take_zero,vI];exact HH.out,Fr.refl _ _⟩
 case round=>
  obtain⟨t,hj,rfl,E,A⟩:=hrel
  by_cases b9:t<len
  ·have F:(t:Int)<len:=by omega
   obtain⟨x,hx⟩: ∃x,l[t]? =some x:=⟨l[t]'(by rw[N.out];exact b9),zX0 _⟩
   obtain⟨y,rfl,a9,B,hc⟩:=e3.out t x hx
   have D:y≠b:=a6 y a9
   obtain⟨u,hi,W⟩:=hk x (i9 hx)
   have d0:wr.cell? (af y (t*6))=some (ab u):=by rw[<-W];exact(A.cellAt B D).trans (hc 0 _ rfl)
   have d1:=(A.cellAt B D).trans (hc 1 _ rfl)
   have d2:=(A.cellAt B D).trans (hc 2 _ rfl)
   have d3:=(A.cellAt B D).trans (hc 3 _ rfl)
   have d4:=(A.cellAt B D).trans (hc 4 _ rfl)
   have d5:=(A.cellAt B D).trans (hc 5 _ rfl)
   have a5:l.take (t+1)=l.take t++[x]:=by rw[List.take_add_one,hx];rfl
   have I:=Cu e (l.take t) x u W
   have Y:=zZ e (l.take t) u
   have b7:(l.take t).length<=1000000:=y_
   have c4:=c3 u hi
   obtain⟨C,hC⟩: ∃C,iH e (l.take t)=C:=⟨_,rfl⟩
   rw[hC] at E I Y
   obtain⟨ci,G⟩: ∃ci,C u=ci:=⟨_,rfl⟩
   rw[G] at I Y
   have e2:=E.cn u hi
   rw[G] at e2
   have a2:=E.Oy u hi (ci+1)
   have hA:Below (wr.setCell (af b (2+u)) (ab ((ci+1:Nat):Int))).heap.size (wr.setCell (af b (2+u)) (ab ((ci+1:Nat):Int))) (((wr.setCell (af b (2+u)) (ab ((ci+1:Nat):Int))).alloc (.cells #[ab u,ab x.p,ab x.x,aM x.g,ab x.r,ab x.e] 80)).drew):=bq.drew
   have d6:=aa (a2.kept (hA.block b a2.lt))
   have d9:=aa ((A.setCell (a:=(af b (2+u))) rfl (ab ((ci+1:Nat):Int))).then (dd (S:=fun s=>s=b) hA) (fun s _ q=>q))
   have e7:wrap64 ((ci:Int)+1)=((ci+1:Nat):Int):=by simp[wrap64,IntKind.wrap,IntKind.bits,IntKind.signed];omega
   have O:b<wr.heap.size:=E.lt
   have b0:=E.fz (2+u)
   have e0:=aa I
   have c9:=aa a5
   have e9:(u:Int)<15:=z_
   have e8: ¬(u:Int)<0:=z_
   clear hx a9 hc W hk E A a2 hA I a5 b7 c4 Y hC G
   go_wp2
   go_region
   go_wp2
   go_roundw
   case rel=>exact⟨t+1,z_,by go_num,by rw[c9.out,e0.out];exact d6.out,d9.out⟩
   case measure=>simp[RowKit.intOf];omega
  ·have F: ¬(t:Int)<len:=by omega
   have ej:t=len:=z_
   have b5:l.take t=l:=List.take_of_length_le (by rw[N.out];omega)
   rw[b5] at E
   have c0:=E.c0
   have b0:=E.fz 0
   have a3:=aQ HE.out (w':=wr) (fun s q=>A.block s (au HE.out q).2.1 (T s q))
   have c5:d<=wr.heap.size:=zY0 a0 A.size
   have HR:=aa E
   have HF:=aa A
   have a4:=aa a3
   have O:b<wr.heap.size:=E.lt
   obtain⟨i0,a8,b4,b3,b2⟩:=Cb.info_parts nI
   have L:=aQ HL.out (w':=wr) (fun s q=>A.block s (au HL.out q).2.1 (a6 s q))
   have d8:=aa L
   have e5:=N.out
   rcases L.2 with ⟨hv,hz⟩|⟨y,e6,f2,hv,_,f0,e4⟩
   ·injection hv with q1 q2 q3
    subst q1
    have b8:l=[]:=List.length_eq_zero_iff.1 z_
    have U:len=0:=z_
    have Z:c7=0:=z_
    subst U Z
    rw[ej]
    rw[ej] at F
    clear E A a3 hk L hz q2 q3
    go_wp2_with (at_builtin;refine Wh.iC _ rfl _ _ 38 rfl d 80 i0 6 Tryz.underlying38 a8 _ _ _ rfl a4.out rfl ?_)
    go_end0
    rw[b8] at HR
    exact⟨rfl,_,HR.out.KX _,aQ a4.out (fun s q=>zZ0 _ _ _ _ (T s q)),(HF.out.setCell (a:=(ao b)) rfl _).to (fun s _ q=> .inl q),.inl rfl⟩
   ·injection hv with q1 q2 q3
    subst q1
    subst q3
    have c1:(t:Int)=len:=z_
    rw[ej]
    rw[ej] at F
    clear E A a3 hk L c1
    go_wp2_with (at_builtin;refine wpList_append_own_at _ rfl _ _ 38 rfl d 80 i0 (.agg #[ab 0,ab 0,ab 0,aM 0,ab 0,ab 0]) 6 48 Tryz.underlying38 a8 b4 b3 b2 rfl x_ _ _ _ rfl a4.out (ao y) len _ (bF l) rfl y_ (d8.out.cells rfl) (vM l) (by unfold maxLen;omega) z_ c5 ?_;intro v1 w8 R X _ P;obtain⟨a1,d1,rfl⟩:=Cb.aJ R;have J:=X.block b O (fun z=>T b z.symm rfl);have c8:w8.cell? (ao b)=_:=(i5 J).trans c0;have f8:w8.frozen? (ao b)=false:=(zV0 J).trans b0;have e1:=aa J;have d7:=aa R;have H:Hid (wr.grownBy w8 (Value.slice ae c.length ce).ownBlock):=X;have Q:Hid ((Value.slice a1 (c.length+len) d1).ownBlock=(Value.slice ae c.length ce).ownBlock\/(Value.slice a1 (c.length+len) d1).ownBlock=some wr.heap.size):=P;clear R X P J)
    go_end0
    have c6:=(HR.out.kept e1.out).KX (.slice a1 (c.length+len) d1)
    have ho:=d7.out
    rw[<-pT] at ho
    have b6: ∀s,(Value.slice a1 (c.length+len) d1).ownBlock=some s->s≠b:=fun s q=>by
     rcases Q.out with o|o
     ·grind
     grind
    refine⟨rfl,_,c6,?_,?_,?_⟩
    ·unfold fK
     rw[List.length_append,N.out]
     exact aQ ho (fun s q=>zZ0 _ _ _ _ (b6 s q))
    ·have c2:Fr (fun s=>s=b\/(Value.slice ae c.length ce).ownBlock=some s) wr w8:=⟨H.out.os,H.out.tape,H.out.output,H.out.size,fun s hk hn=>H.out.block s hk (fun z=>hn (.inr z.symm))⟩
     exact((HF.out.to (fun s _ q=> .inl q)).then c2 (fun s _ q=>q)).setCell (a:=(ao b)) (.inl rfl) _
    ·rcases Q.out with o|o
     ·grind
     ·refine .inr (fun s q=> ?_)
      rw[o] at q
      injection q with q
      rw[<-q]
      exact HF.out.size
end
end Go.Proofs.YtnmhcgpnhlhcgaaGreatDoor
namespace Go.Proofs.YtnmhcgpnhlhcgaaGreatDoor
open Go.RowKit Go.Lib Go.Shelf
section
variable {w wr b:World} {a:Ad} {P n q T:Nat} {M:Mc} {K:Nat->Prop}
end
def KG (w:World) (a:Nat) (v:Value) (l:List Int):Prop:=w.ownsRow a 32 1 v l.length (l.map (fun e=>ab e))
def KR (a:Nat) (b c:Value) (E:Nat->Prop) (k:Nat):Prop:=k=a\/b.ownBlock=some k\/c.ownBlock=some k\/E k
def RS (h g:Nat) (w V:World) (f:Ad) (P n q T:Nat) (M:Mc) (a:Nat) (b:List Ev) (c:List Int) (e:Value) (E:Nat->Prop):Prop:=
 ∃d,nQ w V f P n q T M (KR a d e E)/\RB V a d e (iH (fun _=>0) b) f.m (P:Int) h g/\fK V (a+1) d b/\KG V (a+1) e c/\(∀k,E k->k≠a/\d.ownBlock≠some k/\e.ownBlock≠some k)/\w.heap.size<=a/\0<a
theorem KG.lt {w:World} {base:Nat} {v:Value} {l:List Int} (h:KG w base v l) {k:Nat} (a:v.ownBlock=some k):base<=k/\k<w.heap.size:=⟨(au h a).1,(au h a).2.1⟩
def fK.EJ {w:World} {a:Nat} {v:Value} {l:List Ev} (h:fK w a v l) {k:Nat} (b:v.ownBlock=some k):a<=k/\k<w.heap.size:=⟨(au h b).1,(au h b).2.1⟩
section
variable {w V V':World} {c:Ad} {P n q T T':Nat} {M M':Mc} {d:Nat} {f wh:Nat} {b l:List Ev} {a:List Int} {e:Value} {E E':Nat->Prop}
def RS.add (h:RS f wh w V c P n q T M d b a e E) (j:aC V V') (p: ∀k,E' k->E k\/(V.heap.size<=k/\k<V'.heap.size)):RS f wh w V' c P n q T M d b a e E':=by
 obtain⟨x,u,o,i,m,y,v⟩:=h
 have s:=o.lt
 refine⟨x,u.below j (fun k q=> ?_),o.kept (j.block _ s),i.below j,aQ m (fun k t=>j.block k (m.lt t).2),fun k q=> ?_,v⟩
 ·rcases q with q|q|q|q
  ·exact .inl (.inl q)
  ·exact .inl (.inr (.inl q))
  ·exact .inl (.inr (.inr (.inl q)))
  ·rcases p k q with r|r
   ·exact .inl (.inr (.inr (.inr r)))
   omega
 ·rcases p k q with r|r
  ·grind
  ·exact⟨z_,fun g=>by have:=(i.EJ g).2;omega,fun g=>by have:=(m.lt g).2;omega⟩
def RS.below (h:RS f wh w V c P n q T M d b a e E) (g:aC V V'):RS f wh w V' c P n q T M d b a e E:=h.add g (fun k q=> .inl q)
def RS.less (h:RS f wh w V c P n q T M d b a e E) (g: ∀k,E' k->E k):RS f wh w V c P n q T M d b a e E':=h.add cj (fun k q=> .inl (g k q))
def RS.jC (h:RS f wh w V c P n q T M d b a e E):aC w V:=by
 obtain⟨i,g,_⟩:=h
 exact g.jC
def RS.is (h:RS f wh w V c P n q T M d b a e E): ∃g,ax V g c P n q T M:=by
 obtain⟨i,⟨⟨g,hi,_⟩,_⟩,_⟩:=h
 grind
theorem RS.lt (h:RS f wh w V c P n q T M d b a e E):d<V.heap.size:=by
 obtain⟨j,i,g,_⟩:=h
 exact g.lt
def RS.Fs (h:RS f wh w V c P n q T M d b a e E) {k:Nat} (i:E k):k<V.heap.size:=by
 obtain⟨p,⟨⟨g,hi,o,j⟩,m⟩,_⟩:=h
 exact(j k (.inr (.inr (.inr i)))).2
def RS.mc (h:RS f wh w V c P n q T M d b a e E):V.cell? (af d 18)=some (ak c.m):=by
 obtain⟨j,i,g,_⟩:=h
 exact g.c18
def RS.call (h:RS f wh w V c P n q T M d b a e E) {g:Nat} {args:Array Value} {R:Ending->World->Value->Prop}
  (x: ∀m,ax V m c P n q T M->aB g args V fun i j=> ∃v,R i j v/\fK j V.heap.size v l/\dF V j m c P n q T' M' v):
  aB g args V fun i j=> ∃v,R i j v/\fK j V.heap.size v l/\RS f wh w j c P n q T' M' d b a e E/\ ∀k,E k->j.heap[k]? =V.heap[k]? :=by
 obtain⟨D,B,y,A,z,t⟩:=h
 refine(B.call x).mono ?_
 rintro i j ⟨v,u,s,r,o⟩
 refine⟨v,u,s,⟨D,r.below cj (fun k q=> .inl (.inl q)),y.kept (o _ (.inl rfl)),aQ A (fun k p=>o k (.inr (.inl p))),aQ z (fun k p=>o k (.inr (.inr (.inl p)))),t⟩,fun k C=>o k (.inr (.inr (.inr C)))⟩
def RS.AK (h:RS f wh w V c P n q T M d b a e E) {g:Nat} {p:Array Value} {R:Ending->World->Prop}
  (D: ∀m,ax V m c P n q T M->aB g p V fun i o=>R i o/\aD V o m c P n q T' M'):
  aB g p V fun i o=>R i o/\RS f wh w o c P n q T' M' d b a e E/\ ∀k,E k->o.heap[k]? =V.heap[k]? :=by
 obtain⟨A,⟨⟨m,hi,y,t⟩,x⟩,F,H,G,B⟩:=h
 refine(D m hi).mono ?_
 rintro i o ⟨C,s,v,z,r⟩
 have u: ∀k,KR d A e E k->o.heap[k]? =V.heap[k]? :=fun k j=>r.block k (t k j).2 (fun q=>q (t k j).1)
 refine⟨C,⟨A,⟨⟨s,v,fun k j=> ?_,fun k j=>⟨(z.old k (t k j).2).trans (t k j).1,i8 (t k j).2 r.size⟩⟩,x.trans ⟨r.os,r.tape,r.output,r.size,fun k j=>r.block k (i8 j x.size) (fun q=>by grind)⟩⟩,F.kept (u _ (.inl rfl)),aQ H (fun k j=>u k (.inr (.inl j))),aQ G (fun k j=>u k (.inr (.inr (.inl j)))),B⟩,fun k y=>u k (.inr (.inr (.inr y)))⟩
 rcases Nat.lt_or_ge k V.heap.size with q|q
 ·exact y k (by rw[<-z.old k q];exact j)
 ·exact zY0 x.size q
def nQ.fr {K K' S:Nat->Prop} (h:nQ w V c P n q T M K) (g:Fr S V V') (t: ∀k,S k->K k) (x: ¬S 0) (hw: ∀k,S k->w.heap.size<=k) (j: ∀k,K' k->k<V'.heap.size/\(K k\/V.heap.size<=k)):nQ w V' c P n q T M K':=by
 obtain⟨⟨i,hi,v,u⟩,o⟩:=h
 refine⟨⟨i,hi.frame g (fun k s r=>s (u k (t k r)).1) x,v,fun k q=> ?_⟩,o.trans ⟨g.os,g.tape,g.output,g.size,fun k j=>g.block k (i8 j o.size) (fun q=>by grind)⟩⟩
 obtain⟨p,m|m⟩:=j k q
 ·grind
 ·exact⟨hi.fresh m,p⟩
def CM (h:Nat->Nat) (l g:List Ev):iH (iH h l) g=iH h (l++g):=by
 funext k
 simp[iH,List.filter_append]
 omega
def RS.note (h:RS f wh w V c P n q T M d b a e E) {j:Nat} {v:Value} (D:fK V j v l) (J:d<j) (I: ∀g∈l,∃i:Nat,i<15/\g.k=(i:Int)) (p:b.length+l.length<=1000000):
  aB 105 #[ak d,v] V fun g y=>g=aS #[]/\RS f wh w y c P n q T M d (b++l) a e E/\ ∀k,E k->y.heap[k]? =V.heap[k]? :=by
 have r: ∀k,E k->k<V.heap.size:=fun k q=>h.Fs q
 obtain⟨Q,L,A,x,t,F,hw,O⟩:=h
 have z: ∀k,iH (fun _=>0) b k<=3000000:=fun k=>by have:=zZ (fun _=>0) b k;omega
 refine(IY A x D I (fun k q=>by have:=(x.EJ q).1;omega) (fun k q=>by have:=(D.EJ q).1;omega) p (fun k _=>z k) (by have:=A.lt;omega)).mono ?_
 rintro g y ⟨rfl,B,s,u,m,G⟩
 rw[CM] at s
 have H: ∀k,e.ownBlock=some k->k≠d/\Q.ownBlock≠some k:=fun k q=>⟨by have:=(t.lt q).1;omega,fun C=>by
  obtain⟨W,S⟩:=(au t q).2.2
  obtain⟨U,R⟩:=(au x C).2.2
  grind⟩
 refine⟨rfl,⟨B,L.fr m (fun k q=> ?_) (fun q=> ?_) (fun k q=> ?_) (fun k q=> ?_),s,u,aQ t (fun k q=>m.block k (t.lt q).2 (fun C=> ?_)),fun k q=>⟨(F k q).1,fun g=> ?_,(F k q).2.2⟩,hw,O⟩,fun k N=>m.block k (r k N) (fun q=> ?_)⟩
 ·rcases q with q|q
  ·exact .inl q
  ·exact .inr (.inl q)
 ·rcases q with q|q
  ·omega
  ·have:=(x.EJ q).1;omega
 ·rcases q with q|q
  ·omega
  ·have:=(x.EJ q).1;omega
 ·rcases q with q|q|q|q
  ·exact⟨by rw[q];exact i8 A.lt m.size,.inl (.inl q)⟩
  ·refine⟨(u.EJ q).2,?_⟩
   rcases G with o|o
   ·exact .inl (.inr (.inl y_))
   grind
  ·exact⟨i8 (t.lt q).2 m.size,.inl (.inr (.inr (.inl q)))⟩
  ·exact⟨i8 (r k q) m.size,.inl (.inr (.inr (.inr q)))⟩
 ·grind
 ·grind
 grind
end
attribute [local go_sem ↓] Go.wp_at_zero Go.wp_at_succ
abbrev eC (d p:Int) (i:Nat) (g:Int) (a:Option Addr) (b c j f:Nat) (e:Int) (h:Nat) (sv:Int):Array Value:= #[ab d,ab p,aj i,ab g,.slice a b c,aj j,aj f,ab e,aA h,ab sv]
def KD (g f:Nat) (w:World) (j:Ad) (P n q m:Nat) (o:Mc) (h:Nat) (d:List Ev) (a:List Int) (i:Value) (E:Nat->Prop) (c:Int) (l:List Ev) (V:World) (e:Ending) (b:World):Prop:=
 ∃v,e=aS #[v,ab c]/\fK b V.heap.size v l/\RS g f w b j P n q m o h d a i E/\ ∀k,E k->b.heap[k]? =V.heap[k]?
def Comes (g f:Nat) (w:World) (j:Ad) (P n q l:Nat) (m:Mc) (h:Nat) (b:List Ev) (a:List Int) (i:Value) (E:Nat->Prop) (c:Int) (V:World) (e:Ending) (d:World):Prop:=
 e= .returned (ab c)/\RS g f w d j P n q l m h b a i E/\ ∀k,E k->d.heap[k]? =V.heap[k]?
def OW (l:List Ev):Prop:= ∀e∈l,∃i:Nat,i<15/\e.k=(i:Int)
section
variable {w V:World} {f:Ad} {P n q T T':Nat} {M M':Mc} {e j i us' wh':Nat} {d evs' l:List Ev} {b:List Int} {g:Value} {E:Nat->Prop} {c:Int}
def RS.told (h:RS j i w V f P n q T M e d b g E) {V0:World} {E0:Nat->Prop} (r: ∀k,E0 k->E k) (B:e<V0.heap.size) (u: ∀k,E0 k->V.heap[k]? =V0.heap[k]?) {m:Nat} {v:Value} (t:fK V m v l) (y:V0.heap.size<=m) (x:OW l) (o:d.length+l.length<=1000000):
  aB 105 #[ak e,v] V fun a p=>a=aS #[]/\RS j i w p f P n q T M e (d++l) b g E0/\ ∀k,E0 k->p.heap[k]? =V0.heap[k]? :=by
 refine(h.note t z_ x o).mono ?_
 rintro a p ⟨rfl,z,A⟩
 exact⟨rfl,z.less r,fun k s=>(A k (r k s)).trans (u k s)⟩
def RS.pre (h:RS j i w V f P n q T M e d b g E) (C:Array Value) {W:World} (p:aC (V.alloc (.cells C 86)) W):
  RS j i w W f P n q T M e d b g (fun k=>E k\/k=V.heap.size)/\W.cell? (af e 18)=some (ak f.m)/\(∀(a:Nat) u,C[a]? =some u->W.cell? (af V.heap.size a)=some u)/\e<V.heap.size/\(∀k,E k->W.heap[k]? =V.heap[k]?)/\V.heap.size<=W.heap.size:=by
 have o:aC V W:=bt bq p
 have r:=h.add o (E':=fun k=>E k\/k=V.heap.size) (fun k q=>q.elim .inl (fun q=> .inr ⟨z_,by have:=p.size;simp at this;omega⟩))
 exact⟨r,r.mc,fun a u s=>kc p (bB V C 86 a _ s),h.lt,fun k q=>o.block k (h.Fs q),o.size⟩
def RS.JJ (h:RS j i w V f P n q T M e d b g E) (p:Int) (F:Nat) (W:Int) (a:Option Addr) (u B bu U:Nat) (pg:Int) (X:Nat) (sv:Int) (hk:OW l) (A:d.length+l.length<=1000000)
  (hc: ∀I E',RS j i w I f P n q T M e d b g E'->aB 14 #[ak f.m,ab p,aj F] I (KD j i w f P n q T' M' e d b g E' c l I)):
  aB 60 #[ak e,.agg (eC 1 p F W a u B bu U pg X sv)] V (Comes j i w f P n q T' M' e (d++l) b g E c V):=by
 obtain⟨h1,H,D,G,z,x⟩:=h.pre (eC 1 p F W a u B bu U pg X sv) cj.drew
 have k0:=D 0 _ rfl;have Z:=D 1 _ rfl;have Y:=D 2 _ rfl
 have HC:=aa (hc _ _ h1);have N:=aa z;have L:=aa x
 unfold Comes
 clear h h1 hc D z x
 refine ge ?_
 go_wp2
 go_region_held3 (fun C=>C.cell? (af e 18)=some (ak f.m)/\C.cell? (ao V.heap.size)=some (ab 1)/\C.cell? (af V.heap.size 1)=some (ab p)/\C.cell? (af V.heap.size 2)=some (aj F)) (first|exact⟨H,k0,Z,Y⟩|assumption|go_keep)
  (first
   |(go_at_call 14;refine(HC.out).mono ?_;rintro r w1 ⟨v1,rfl,v,s,t⟩;have J:=aa v;have Q:=aa s;have S:=aa t;have y:=fun o=>i5 (a:=af V.heap.size o) (t _ (.inr rfl));have a0:=aa (And.intro s.mc (And.intro ((y 0).trans k0) (And.intro ((y 1).trans Z) ((y 2).trans Y))));clear v s t y))
 go_wp2_with (go_at_call 105;refine cI (Q.out.told (V0:=V) (E0:=E) (fun k q=> .inl q) G (fun k q=>(S.out k (.inl q)).trans (N.out k q)) J.out L.out hk A) fun w2 O R=> ?_)
 go_ret
 exact⟨rfl,O.out,R.out⟩
def RS.Fq (h:RS j i w V f P n q T M e d b g E) (p:Int) (dr:Nat) (W:Int) (a:Option Addr) (v D bu U:Nat) (pg:Int) (F:Nat) (sv:Int) (hk:OW l) (C:d.length+l.length<=1000000)
  (hc: ∀I E',RS j i w I f P n q T M e d b g E'->aB 20 #[ak f.m,ab pg,aA F,ab sv] I (KD j i w f P n q T' M' e d b g E' c l I)):
  aB 60 #[ak e,.agg (eC 5 p dr W a v D bu U pg F sv)] V (Comes j i w f P n q T' M' e (d++l) b g E c V):=by
 obtain⟨h1,H,x,G,B,A⟩:=h.pre (eC 5 p dr W a v D bu U pg F sv) cj.drew
 have k0:=x 0 _ rfl;have Z:=x 7 _ rfl;have Y:=x 8 _ rfl;have X:=x 9 _ rfl
 have HC:=aa (hc _ _ h1);have N:=aa B;have L:=aa A
 unfold Comes
 clear h h1 hc x B A
 refine ge ?_
 go_wp2
 go_region_held3 (fun u=>u.cell? (af e 18)=some (ak f.m)/\u.cell? (ao V.heap.size)=some (ab 5)/\u.cell? (af V.heap.size 7)=some (ab pg)/\u.cell? (af V.heap.size 8)=some (aA F)/\u.cell? (af V.heap.size 9)=some (ab sv)) (first|exact⟨H,k0,Z,Y,X⟩|assumption|go_keep)
  (first
   |(go_at_call 20;refine(HC.out).mono ?_;rintro r w1 ⟨v1,rfl,z,s,t⟩;have J:=aa z;have Q:=aa s;have S:=aa t;have y:=fun o=>i5 (a:=af V.heap.size o) (t _ (.inr rfl));have a0:=aa (And.intro s.mc (And.intro ((y 0).trans k0) (And.intro ((y 7).trans Z) (And.intro ((y 8).trans Y) ((y 9).trans X)))));clear z s t y))
 go_wp2_with (go_at_call 105;refine cI (Q.out.told (V0:=V) (E0:=E) (fun k q=> .inl q) G (fun k q=>(S.out k (.inl q)).trans (N.out k q)) J.out L.out hk C) fun w2 O R=> ?_)
 go_ret
 exact⟨rfl,O.out,R.out⟩
def RS.Ez (h:RS j i w V f P n q T M e d b g E) {V0:World} {E0:Nat->Prop} (r: ∀k,E0 k->E k) (s:e<V0.heap.size) (p: ∀k,E0 k->V.heap[k]? =V0.heap[k]?) (m:d.length<=1000000):
  aB 105 #[ak e,.slice none 0 0] V fun a o=>a=aS #[]/\RS j i w o f P n q T M e d b g E0/\ ∀k,E0 k->o.heap[k]? =V0.heap[k]? :=by
 have:=h.told (l:=[]) r s p (fK.nil _ _) aT (fun a q=>by cases q) (by simpa using m)
 rwa [List.append_nil] at this
def RS.Hk (h:RS j i w V f P n q T M e d b g E) (p:Int) (dr:Nat) (S:Int) (a:Option Addr) (s t bu R:Nat) (pg:Int) (U:Nat) (sv:Int) (C:d.length<=1000000)
  (Y: ∀D Q,aC V D->RS j i w D f P n q T M e d b g Q->aB 18 #[ak f.m,.slice a s t] D fun r z=>(∃x,r=aS #[ab x,ab c])/\RS j i w z f P n q T' M' e d b g Q/\ ∀k,Q k->z.heap[k]? =D.heap[k]?):
  aB 60 #[ak e,.agg (eC 3 p dr S a s t bu R pg U sv)] V (Comes j i w f P n q T' M' e d b g E c V):=by
 obtain⟨Z,H,F,G,B,A⟩:=h.pre (eC 3 p dr S a s t bu R pg U sv) cj.drew
 have X:=F 0 _ rfl;have W:=F 4 _ rfl
 have HC:=aa (Y _ _ bq.drew Z);have I:=aa B;have a0:=aa A
 unfold Comes
 clear h Z Y F B A
 refine ge ?_
 go_wp2
 go_region_held3 (fun z=>z.cell? (af e 18)=some (ak f.m)/\z.cell? (ao V.heap.size)=some (ab 3)/\z.cell? (af V.heap.size 4)=some (.slice a s t)) (first|exact⟨H,X,W⟩|assumption|go_keep)
  (first
   |(go_at_call 18;refine(HC.out).mono ?_;rintro r w1 ⟨⟨x1,rfl⟩,u,v⟩;have L:=aa u;have O:=aa v;have y:=fun o=>i5 (a:=af V.heap.size o) (v _ (.inr rfl));have a1:=aa (And.intro u.mc (And.intro ((y 0).trans X) ((y 4).trans W)));clear u v y))
 go_wp2_with (go_at_call 105;refine cI (L.out.Ez (V0:=V) (E0:=E) (fun k q=> .inl q) G (fun k q=>(O.out k (.inl q)).trans (I.out k q)) C) fun w2 J N=> ?_)
 go_ret
 exact⟨rfl,J.out,N.out⟩
def RS.GU (h:RS j i w V f P n q T M e d b g E) (p:Int) (Y:Nat) (Q:Int) (a:Option Addr) (x C t s:Nat) (pg:Int) (R:Nat) (sv:Int) (B:d.length<=1000000):
  aB 60 #[ak e,.agg (eC 4 p Y Q a x C t s pg R sv)] V (Comes j i w f P n q T {M with sv:=Cb.zo P M.sv t s} e d b g E (Cb.pH P M.sv t s) V):=by
 obtain⟨X,H,F,G,A,z⟩:=h.pre (eC 4 p Y Q a x C t s pg R sv) cj.drew
 have W:=F 0 _ rfl;have U:=F 5 _ rfl;have S:=F 6 _ rfl
 have HC:=aa (X.AK (fun Z hi=>hi.admit t s));have I:=aa A;have a0:=aa z
 unfold Comes
 clear h X F A z
 generalize Cb.pH P M.sv t s=c1 at*
 generalize Cb.yT P M.sv t s=n1 at*
 refine ge ?_
 go_wp2
 go_region_held3 (fun D=>D.cell? (af e 18)=some (ak f.m)/\D.cell? (ao V.heap.size)=some (ab 4)/\D.cell? (af V.heap.size 5)=some (aj t)/\D.cell? (af V.heap.size 6)=some (aj s)) (first|exact⟨H,W,U,S⟩|assumption|go_keep)
  (first
   |(go_at_call 13;refine(HC.out).mono ?_;rintro r w1 ⟨rfl,u,v⟩;have L:=aa u;have O:=aa v;have y:=fun o=>i5 (a:=af V.heap.size o) (v _ (.inr rfl));have a1:=aa (And.intro u.mc (And.intro ((y 0).trans W) (And.intro ((y 5).trans U) ((y 6).trans S))));clear u v y))
 go_wp2_with (go_at_call 105;refine cI (L.out.Ez (V0:=V) (E0:=E) (fun k q=> .inl q) G (fun k q=>(O.out k (.inl q)).trans (I.out k q)) B) fun w2 J N=> ?_)
 go_ret
 exact⟨rfl,J.out,N.out⟩
def RS.I0 (h:RS j i w V f P n q T M e d b g E) (p:Int) (S:Nat) (y:Int) (a:Option Addr) (o x U N:Nat) (pg:Int) (O:Nat) (sv:Int) (t:evs'.length<=1000000)
  (Q: ∀C J,RS j i w C f P n q T M e d b g J->aB 104 #[ak e,ab y] C fun m L=>m=aS #[]/\RS us' wh' w L f P n q T' M' e evs' b g J/\ ∀k,J k->L.heap[k]? =C.heap[k]?):
  aB 60 #[ak e,.agg (eC 2 p S y a o x U N pg O sv)] V (Comes us' wh' w f P n q T' M' e evs' b g E 0 V):=by
 obtain⟨R,B,z,A,s,r⟩:=h.pre (eC 2 p S y a o x U N pg O sv) cj
 have k0:=z 0 _ rfl;have k3:=z 3 _ rfl
 have X:=aa (Q _ _ R);have D:=aa s;have W:=aa r
 unfold Comes
 clear h R Q z s r B
 refine ge ?_
 go_wp2_with (go_at_call 104;refine(X.out).mono ?_;rintro m Z ⟨rfl,u,v⟩;have G:=aa u;have I:=aa v;clear u v)
 go_wp2_with (go_at_call 105;refine cI (G.out.Ez (V0:=V) (E0:=E) (fun k q=> .inl q) A (fun k q=>(I.out k (.inl q)).trans (D.out k q)) t) fun Y F H=> ?_)
 go_ret
 exact⟨rfl,F.out,H.out⟩
def J0 (P:Nat) (M:Mc):Nat:=((List.range P).filter (fun p=>(M.pc p).r != -1)).length
def FJ (P:Nat) (M:Mc):J0 (P+1) M=J0 P M+if (M.pc P).r= -1 then 0 else 1:=by
 unfold J0
 rw[List.range_succ,List.filter_append,List.length_append]
 by_cases h:(M.pc P).r= -1<;>simp[h]
def RS.runs (h:RS j i w V f P n q T M e d b g E) (v:Ny P n M) (p:Nat) (s:p<P): ∃a k:Int,vQ 151 #[ak f.m,ab p] V (.tuple #[.agg #[ab a,aM k],.bool (!decide ((M.pc p).r= -1))]):=by
 obtain⟨t,hi⟩:=h.is
 rcases v.1 p s with o|⟨x,u,o⟩
 ·have:=hi.CY p s o
  exact⟨0,0,by simpa [o] using this⟩
 ·have:=hi.DH p s x u o
  exact⟨_,_,by rw[show(!decide ((M.pc p).r= -1))=true by rw[o];simp];exact this⟩
def RS.box (h:RS j i w V f P n q T M e d b g E):V.cell? (af e 18)=some (ak f.m)/\V.cell? (af e 19)=some (ab P)/\V.cell? (af e 20)=some (aj j)/\V.cell? (af e 21)=some (aj i)/\ ∀o,V.frozen? (af e o)=false:=by
 obtain⟨p,k,a,_⟩:=h
 exact⟨a.c18,a.c19,a.c20,a.c21,a.fz⟩
theorem RS.put (h:RS j i w V f P n q T M e d b g E) {o:Nat} {u:Value} (A: ∀p,RB V e p g (iH (fun _=>0) d) f.m (P:Int) j i->RB (V.setCell (af e o) u) e p g (iH (fun _=>0) d) f.m (P:Int) us' wh'):
  RS us' wh' w (V.setCell (af e o) u) f P n q T M e d b g E/\ ∀k,E k->(V.setCell (af e o) u).heap[k]? =V.heap[k]? :=by
 have z: ∀k,E k->k<V.heap.size:=fun k q=>h.Fs q
 obtain⟨p,v,B,t,s,r,hw,D⟩:=h
 have y:Fr (fun k=>k=e) V (V.setCell (af e o) u):=(Fr.refl (fun k=>k=e) V).setCell (a:=af e o) rfl u
 refine⟨⟨p,v.fr y (fun k q=> .inl q) (fun q=>by omega) (fun k q=>by omega) (fun k q=> ?_),A p B,aQ t (fun k q=>zZ0 _ _ _ _ (by have:=(t.EJ q).1;show k≠e;omega)),aQ s (fun k q=>zZ0 _ _ _ _ (by have:=(s.lt q).1;show k≠e;omega)),r,hw,D⟩,fun k q=>zZ0 _ _ _ _ (r k q).1⟩
 obtain⟨⟨x,hi,G,C⟩,F⟩:=v
 exact⟨by have:=(C k q).2;simpa using this,.inl q⟩
noncomputable def cF (P n q:Nat) (s:Mc×List Ev×Nat×Nat):Nat->Mc×List Ev×Nat×Nat
 |0=>s
 |c+1=>((mz P n q (cF P n q s c).1),(cF P n q s c).2.1++iN P n q (cF P n q s c).1,(cF P n q s c).2.2.1+J0 P (cF P n q s c).1,(cF P n q s c).2.2.2+P)
end
def Oi (x:Ex.En) (a:Option Addr) (b:Nat):Value:= .agg #[ab x.d,ab x.p,aj x.dr,ab x.n,.slice a x.code.length b,aj x.bu,aj x.pe,ab x.pr,aA x.lv,ab x.sv]
structure OV (w:World) (v:Value) (L:List Ex.En) (E:Nat->Prop):Prop where
 len: ∃a cap,v= .slice a L.length cap
 at_: ∀(j:Nat) (x:Ex.En),L[j]? =some x-> ∃g a cap,(∃c,v= .slice (some (ao g)) L.length c)/\E g/\(∀(i:Nat) (u:Value),(Ex.ec x a cap)[i]? =some u->w.cell? (af g (j*10+i))=some u)/\ ∀V:World,(∀k,E k->V.heap[k]? =w.heap[k]?)->(∀k,E k->k<V.heap.size)->Ex.lJ V a x.code.length (Ex.cO x.code) (Ex.cR x.code)
def OV.of {w:World} {b:Nat} {v:Value} {Z:Ex.Zs} (h:Ex.Rw w b 86 v Z):OV w v (Z.map (·.1)) (fun k=>b<=k/\k<w.heap.size):=by
 obtain⟨a,o,E,_⟩:=h.Qi
 refine⟨⟨a,o,y_⟩,fun j x c=> ?_⟩
 rw[List.getElem?_map] at c
 cases hz:Z[j]? with
 |none=>grind
 |some z=>
  rw[hz] at c
  injection c with c
  obtain⟨A,⟨t,F⟩|⟨g,e,D,s,B,r,d⟩⟩:=h.row
  ·grind
  ·refine⟨g,z.2.1,z.2.2,⟨e,y_⟩,⟨B,(zW0.1 r).1⟩,fun i u p=> ?_,fun V C A=> ?_⟩
   ·rw[<-c] at p
    have:=Ex.nh Z j z hz i u p
    rw[<-d.2.2.2,List.getElem?_take] at this
    split at this
    ·simp only[World.cell?,r]
     grind
    grind
   ·obtain⟨l,_⟩:=h.vC z (i9 hz)
    rw[<-c]
    have f:Ex.eZ V b (.slice z.2.1 z.1.code.length z.2.2) z.1.code:=aQ l (fun k q=>C k ⟨(au l q).1,(au l q).2.1⟩)
    obtain⟨G,n,m,y⟩:=Ex.j9 f
    injection m with m
    rw[m]
    exact y
end Go.Proofs.YtnmhcgpnhlhcgaaGreatDoor
namespace Go.Proofs.YtnmhcgpnhlhcgaaGreatDoor
open Go.RowKit Go.Lib Go.Shelf
section
variable {w V W g:World} {j:Ad} {P n q T:Nat} {M:Mc} {b m l:Nat} {i:List Ev} {d:List Int} {f e:Value} {E:Nat->Prop} {c:Int}
def RS.N7 (h:RS m l w V j P n q T M b i d f E):KG V (b+1) f d/\V.cell? (af b 1)=some f/\V.frozen? (af b 1)=false:=by
 obtain⟨r,p,a,o,k,_⟩:=h
 exact⟨k,a.c1,a.fz 1⟩
def RS.err (h:RS m l w V j P n q T M b i d f E) (I:g.ownsRow (b+1) 32 1 e (d.length+1) (d.map (fun p=>ab p)++[ab c])) (s:V.grownBy g f.ownBlock) (D:e.ownBlock=f.ownBlock\/e.ownBlock=some V.heap.size):
  g.cell? (af b 1)=some f/\g.frozen? (af b 1)=false/\RS m l w (g.setCell (af b 1) e) j P n q T M b i (d++[c]) e E/\ ∀k,E k->(g.setCell (af b 1) e).heap[k]? =V.heap[k]? :=by
 have x: ∀k,E k->k<V.heap.size:=fun k q=>h.Fs q
 obtain⟨H,N,u,z,A,G,hw,O⟩:=h
 have B: ∀k,f.ownBlock=some k->k≠b/\H.ownBlock≠some k:=fun k q=>⟨by have:=(A.lt q).1;omega,fun r=>by
  obtain⟨X,R⟩:=(au A q).2.2
  obtain⟨U,Q⟩:=(au z r).2.2
  grind⟩
 have C:g.heap[b]? =V.heap[b]? :=s.block b u.lt (fun p=>(B b p.symm).1 rfl)
 have F:=(u.kept C).NJ e
 have t:Fr (fun k=>k=b\/f.ownBlock=some k) V (g.setCell (af b 1) e):=Fr.setCell (S:=fun k=>k=b\/f.ownBlock=some k) ⟨s.os,s.tape,s.output,s.size,fun k L J=>s.block k L (fun p=>J (.inr p.symm))⟩ (a:=(af b 1)) (.inl rfl) e
 have v: ∀k,e.ownBlock=some k->k≠b/\(f.ownBlock=some k\/V.heap.size<=k):=fun k q=>by
  rcases D with o|o
  ·grind
  ·rw[o] at q
   injection q with q
   have:=u.lt
   omega
 have y:KG (g.setCell (af b 1) e) (b+1) e (d++[c]):=by
  unfold KG
  rw[List.length_append,List.map_append]
  exact aQ I (fun k q=>zZ0 _ _ _ _ (v k q).1)
 refine⟨(i5 C).trans u.c1,(zV0 C).trans (u.fz 1),⟨H,N.fr t (fun k q=> ?_) (fun q=> ?_) (fun k q=> ?_) (fun k q=> ?_),F,aQ z (fun k q=>t.block k (z.EJ q).2 (fun r=> ?_)),y,fun k q=>⟨(G k q).1,(G k q).2.1,fun p=> ?_⟩,hw,O⟩,fun k q=>t.block k (x k q) (fun r=> ?_)⟩
 ·rcases q with q|q
  ·exact .inl q
  ·exact .inr (.inr (.inl q))
 ·rcases q with q|q
  ·omega
  ·have:=(A.lt q).1;omega
 ·rcases q with q|q
  ·omega
  ·have:=(A.lt q).1;omega
 ·rcases q with q|q|q|q
  ·exact⟨by rw[q];exact i8 u.lt t.size,.inl (.inl q)⟩
  ·exact⟨i8 (z.EJ q).2 t.size,.inl (.inr (.inl q))⟩
  ·refine⟨(y.lt q).2,?_⟩
   rcases(v k q).2 with o|o
   ·exact .inl (.inr (.inr (.inl o)))
   omega
  ·exact⟨i8 (x k q) t.size,.inl (.inr (.inr (.inr q)))⟩
 ·rcases r with r|r
  ·have:=(z.EJ q).1;omega
  grind
 ·grind
 grind
end
def Kl (a b:Int) (m:Nat) (l:List Ev):Prop:=l.length<=m/\ ∀e∈l,a<=e.k/\e.k<=b
section
variable {a b:Int} {m c:Nat} {l e:List Ev} {P n q B:Nat} {D:List Nat} {M:Mc}
def Kl.nil:Kl a b m []:=⟨Nat.zero_le _,fun d h=>by cases h⟩
def Kl.app (h:Kl a b m l) (d:Kl a b c e):Kl a b (m+c) (l++e):=by
 unfold Kl at*
 grind
theorem Kl.one {d:Ev} (h:a<=d.k/\d.k<=b:=by
  dsimp only
  decide):Kl a b 1 [d]:=by
 unfold Kl
 grind
def Kl.snoc (h:Kl a b m l) {d:Ev} (f:a<=d.k/\d.k<=b:=by
  dsimp only
  decide):Kl a b (m+1) (l++[d]):=h.app (.one f)
def Kl.to {a' b':Int} (h:Kl a b m l) (d:m<=c) (g:a'<=a) (f:b<=b'):Kl a' b' c l:=by
 unfold Kl at*
 grind
def Kl.PF (h:Kl 1 14 m l):OW l:=fun d f=>⟨d.k.toNat,by have:=h.2 d f;omega,by have:=h.2 d f;omega⟩
def Gd {f:Nat} {s:Mc×List Ev} {d lk:Int} (h:Kl 1 10 m s.2):Kl 1 10 (m+1) (sr P n q f s d lk).2:=by
 unfold sr
 split
 ·exact h.to z_ z_ z_
 ·exact h.snoc
def J9 {f x:Nat} (d:List Int): ∀(s:Mc×List Ev) (m:Nat),Kl 1 10 m s.2->Kl 1 10 (m+d.length) (d.foldl (iZ P n q f x) s).2:=by
 induction d with
 |nil=>intro s m h;exact h
 |cons y d g=>
  intro s m h
  have:=g (iZ P n q f x s y) (m+1) (by unfold iZ;exact Gd h)
  exact this.to (by simp;omega) z_ z_
def Mn {pr x:Nat} {op ar:Int} (h:Kl 1 10 m l) (f:M.gr.L.length<=32):Kl 1 10 (m+34) (Ah P n q pr x M l op ar).2.1:=by
 have w: ∀{k:Nat} {r:List Ev},Kl 1 10 k r->k<=m+34->Kl 1 10 (m+34) r:=fun h d=>h.to d z_ z_
 unfold Ah
 split
 ·unfold rW
  split
  ·exact w h.snoc z_
  split
  ·exact w h.snoc.snoc z_
  ·exact w h.snoc.snoc z_
 split
 ·unfold Cd
  split
  ·exact w h.snoc z_
  ·exact w (Gd h.snoc) z_
 split
 ·unfold Bv
  split
  ·exact w h.snoc z_
  split
  ·exact w h.snoc z_
  ·exact w h.snoc.snoc z_
 split
 ·exact w h.snoc z_
 split
 ·exact w h.snoc z_
 split
 ·exact w h.snoc z_
 split
 ·unfold Ca oe
  have:=wj M.gr.T M.gr.L (x:Int)
  exact w (J9 _ (_,_) _ h.snoc).snoc z_
 ·exact w h.snoc z_
def NV {p d:Int} (h:Iv P n B [] M):Kl 1 10 40 (sL P n q M p d):=by
 have w: ∀{k:Nat} {r:List Ev},Kl 1 10 k r->k<=40->Kl 1 10 40 r:=fun h g=>h.to g z_ z_
 have k:=fun x op ar=>Mn (P:=P) (n:=n) (q:=q) (pr:=p.toNat) (x:=x) (op:=op) (ar:=ar) (m:=0) (M:=C5 M x) .nil h.l32
 unfold sL
 split
 ·unfold Ml rC
  split
  ·have f:Kl 1 10 1 (Jf P p.toNat M d):=by
    unfold Jf
    split
    ·exact .one
    ·exact .nil
   unfold NW
   split
   ·exact w f.snoc z_
   ·exact w f.snoc z_
  ·unfold lu
   split
   ·exact w (k:=1) .one z_
   ·exact w (k _ _ _) z_
 ·exact .nil
def OU {pg sv:Int}:Kl 9 9 1 (gL M n pg sv):=by
 unfold gL
 split
 ·exact .nil
 split
 ·exact .nil
 ·exact .one
def F4: ∀j,Kl 11 13 j (rD M j)
 |0=> .nil
 |j+1=>by
  show Kl 11 13 (j+1) (rD M j++Hf (dK M j) j)
  refine(F4 j).app ?_
  unfold Hf
  split
  ·exact .nil
  split
  ·exact .one
  ·exact .nil
def Ff: ∀(d:List Nat) (s:Mc×List Ev) (m:Nat),Kl 11 13 m s.2->Kl 11 13 (m+d.length) (d.foldl (kM P n q) s).2
 |[],s,m,h=>h
 |y::d,s,m,h=>(Ff d (kM P n q s y) (m+1) h.snoc).to (by simp;omega) z_ z_
def F6:Kl 11 13 (P+(kV (dK (bH M) P)).length+(fu M).length) (oJ P n q M).2:=by
 unfold oJ
 refine Ff _ _ _ ((F4 P).app ⟨q_,fun d f=> ?_⟩)
 obtain⟨i,_,rfl⟩:=List.mem_map.1 f
 dsimp only[kP]
 decide
def Ir (M:Mc) (p:Nat):(rn M p).sv.length=M.sv.length:=by
 unfold rn
 split
 ·rfl
 ·show(Cb.fk M.sv _).length=_
  unfold Cb.fk
  split<;>simp
def Ae (M:Mc): ∀j,(dK M j).sv.length=M.sv.length
 |0=>rfl
 |j+1=>(Ir _ j).trans (Ae M j)
def ax.NP {w:World} {d:Nat->Nat} {a:Ad} {T:Nat} (h:ax w d a P n q T M):Kl 11 14 (P+n+33) (iN P n q M):=by
 obtain⟨_,_,g,_⟩:=h.sv
 have r:=g.f.len
 have p:=h.wh.facts.2.2.2.2.2.1
 have o:(kV (dK (bH M) P)).length<=(dK (bH M) P).sv.length:=Cb.mD _ _ _
 have k:(dK (bH M) P).sv.length=M.sv.length:=Ae (bH M) P
 have j:(fu M).length<=M.wh.length:=by
  unfold fu Wh.due
  rw[List.length_map]
  exact List.length_filter_le _ _
 have i:Kl 11 14 (P+n+32) (oJ P n q M).2:=(F6 (P:=P) (n:=n) (q:=q) (M:=M)).to z_ z_ z_
 exact i.snoc
def jQ (M:Mc) (x:Nat):(dt n M x).pr=M.pr:=by
 unfold dt
 split<;>rfl
def Gh (f:Nat) (s:Mc×List Ev) (d lk:Int):(sr P n q f s d lk).1.pr=s.1.pr:=by
 unfold sr
 split
 ·rfl
 ·exact jQ _ _
def zR (d x:Nat): ∀(f:List Int) (s:Mc×List Ev),(f.foldl (iZ P n q d x) s).1.pr=s.1.pr
 |[],s=>rfl
 |y::f,s=>(zR d x f _).trans (Gh d _ _ _)
def Mv (d x:Nat) (M:Mc) (l:List Ev) (f g:Int):(Ah P n q d x M l f g).1.pr=M.pr:=by
 unfold Ah rW Cd Bv Ca
 repeat' split
 all_goals first
  |rfl
  |exact jQ _ _
  |exact Gh _ _ _ _
  |exact zR _ _ _ _
def OE (M:Mc) (p d:Int):(sM P n q M p d).pr=M.pr:=by
 have g:(vx P n q p.toNat M d).pr=M.pr:=by
  unfold vx
  split
  ·exact jQ _ _
  ·rfl
 unfold sM
 split
 ·show(rC P n q p.toNat M d).1.pr=_
  unfold rC NW lu
  repeat' split
  all_goals first
   |exact g
   |rfl
   |exact Mv _ _ _ _ _ _
 ·rfl
def OI (M:Mc) (pg:Int) (d:Nat) (sv:Int):(gM P n q M pg d sv).pr=M.pr:=by
 unfold gM
 repeat' split
 all_goals first
  |rfl
  |exact jQ _ _
def Dt (M:Mc): ∀j,(dK M j).pr=M.pr
 |0=>rfl
 |j+1=>by
  show(rn (dK M j) j).pr=_
  unfold rn
  split<;>exact Dt M j
def DF: ∀(d:List Nat) (s:Mc×List Ev),(d.foldl (kM P n q) s).1.pr=s.1.pr
 |[],s=>rfl
 |y::d,s=>(DF d _).trans (jQ _ _)
def DW (M:Mc):(mz P n q M).pr=M.pr:=(DF _ _).trans (Dt (bH M) P)
def Aa (s:Mc×List Ev×Nat×Nat): ∀j,(cF P n q s j).1.pr=s.1.pr
 |0=>rfl
 |j+1=>(DW _).trans (Aa s j)
end
attribute [local go_sem ↓] Go.wp_at_zero Go.wp_at_succ
def Ec (P:Nat) (M:Mc):J0 P M<=P:=by
 have:=List.length_filter_le (fun p=>(M.pc p).r != -1) (List.range P)
 simpa [J0] using this
section
variable {w V:World} {i:Ad} {P n q T:Nat} {M:Mc} {f c b:Nat} {a:List Ev} {e:List Int} {g:Value} {E:Nat->Prop}
def KY {U:Nat} (h:U<=2000000000):IntKind.u64.wrap ((U:Int)+1)=((U+1:Nat):Int):=by simp[IntKind.wrap,IntKind.bits,IntKind.signed];omega
def uy (s:Mc×List Ev×Nat×Nat): ∀j,(cF P n q s j).2.2.1<=s.2.2.1+j*P/\(cF P n q s j).2.2.2=s.2.2.2+j*P
 |0=>by simp[cF]
 |j+1=>by
  have h:=uy s j
  have:=Ec P (cF P n q s j).1
  rw[Nat.succ_mul]
  exact⟨by show(cF P n q s j).2.2.1+_<=_;omega,by show(cF P n q s j).2.2.2+_=_;omega⟩
def RS.lO (h:RS c b w V i P n q T M f a e g E) (cnt:Nat) (hP:P<=64) (hn:n<=12) (hT:T+cnt*((n+1)*n+n)<=1000000000) (hc:cnt<=65535)
  (c6:a.length+cnt*110<=1000000) (a0:c<=900000000) (J:b<=900000000) {B:Nat} (I:Iv P n B [] M):
  aB 104 #[ak f,ab cnt] V fun m w'=>m=aS #[]/\RS (cF P n q (M,a,c,b) cnt).2.2.1 (cF P n q (M,a,c,b) cnt).2.2.2 w w' i P n q (T+cnt*((n+1)*n+n)) (cF P n q (M,a,c,b) cnt).1 f (cF P n q (M,a,c,b) cnt).2.1 e g E/\(∀k,E k->w'.heap[k]? =V.heap[k]?)/\Iv P n B [] (cF P n q (M,a,c,b) cnt).1/\(cF P n q (M,a,c,b) cnt).2.1.length<=a.length+cnt*110:=by
 have HS:=aa h
 have HI:=aa I
 clear h I
 refine ge ?_
 go_wp2
 go_loopw [8] (fun iv wr=> ∃j:Nat,j<=cnt/\iv=ab j/\RS (cF P n q (M,a,c,b) j).2.2.1 (cF P n q (M,a,c,b) j).2.2.2 w wr i P n q (T+j*((n+1)*n+n)) (cF P n q (M,a,c,b) j).1 f (cF P n q (M,a,c,b) j).2.1 e g E/\(cF P n q (M,a,c,b) j).2.1.length<=a.length+j*110/\(∀k,E k->wr.heap[k]? =V.heap[k]?)/\Iv P n B [] (cF P n q (M,a,c,b) j).1) (fun iv _=>cnt-(RowKit.intOf iv).toNat)
 case atStart=>exact⟨0,Nat.zero_le _,rfl,by rw[Nat.zero_mul];exact HS.out,by show a.length<=_;omega,fun _ _=>rfl,HI.out⟩
 case round=>
  obtain⟨j,hj,rfl,G,hL,hK,I⟩:=hrel
  clear HI
  by_cases c9:j<cnt
  ·have a4:(j:Int)<cnt:=by omega
   have u:=I.Qr
   obtain⟨_,N⟩:=G.is
   have L:=N.NP
   have S:=aa (I.tick (q:=q) N.wh.facts.2.1)
   have C:=(L.to (a':=1) (b':=14) aT z_ z_).PF
   have D:(cF P n q (M,a,c,b) j).2.1.length+(iN P n q (cF P n q (M,a,c,b) j).1).length<=a.length+(j+1)*110:=by
    have:=L.1
    omega
   obtain⟨hu,J⟩:=uy (P:=P) (n:=n) (q:=q) (M,a,c,b) j
   have d0:j*P<=65535*64:=Nat.mul_le_mul z_ hP
   clear N L hL I
   have b6:T+j*((n+1)*n+n)+((n+1)*n+n)<=1000000000:=by
    have:=Nat.mul_le_mul_right ((n+1)*n+n) (show j+1<=cnt by omega)
    rw[Nat.succ_mul] at this
    omega
   have x:=aa (show cF P n q (M,a,c,b) (j+1)=((mz P n q (cF P n q (M,a,c,b) j).1),(cF P n q (M,a,c,b) j).2.1++iN P n q (cF P n q (M,a,c,b) j).1,(cF P n q (M,a,c,b) j).2.2.1+J0 P (cF P n q (M,a,c,b) j).1,(cF P n q (M,a,c,b) j).2.2.2+P) from rfl)
   obtain⟨⟨A,a7,Y,X⟩,hs⟩: ∃s,cF P n q (M,a,c,b) j=s:=⟨_,rfl⟩
   rw[hs] at G u C D hu J x S
   clear hs
   dsimp only at G u C D hu J x S
   obtain⟨T1,O⟩: ∃T1,T+j*((n+1)*n+n)=T1:=⟨_,rfl⟩
   have b9:=aa (show T+(j+1)*((n+1)*n+n)=T1+(n+1)*n+n by rw[<-O,Nat.succ_mul];omega)
   rw[O] at G b6
   clear O
   have b8:=G.box.2.1
   have b0:=aa u
   have HR:=aa G
   have HK:=aa hK
   have c2:=aa C
   have c5:=aa D
   have c1:=aa (show a7.length+(iN P n q A).length<=1000000 by omega)
   clear G hK u C D HS
   go_wp2
   go_loopw [14] (fun iv wr=> ∃p:Nat,p<=P/\iv=ab p/\RS (Y+J0 p A) (X+p) w wr i P n q T1 A f a7 e g E/\ ∀k,E k->wr.heap[k]? =V.heap[k]?) (fun iv _=>P-(RowKit.intOf iv).toNat)
   case atStart=>exact⟨0,Nat.zero_le _,rfl,HR.out,HK.out⟩
   case round=>
    obtain⟨p,hp,rfl,t,H⟩:=hrel
    clear HR HK b8
    by_cases b5:p<P
    ·have a3:(p:Int)<P:=by omega
     obtain⟨xi,xg,a1⟩:=t.runs b0.out p b5
     have a9:=aa a1
     have a0:=Ec p A
     have a8:=aa (FJ p A)
     obtain⟨U,hU⟩: ∃U,Y+J0 p A=U:=⟨_,rfl⟩
     obtain⟨W,hW⟩: ∃W,X+p=W:=⟨_,rfl⟩
     have HU:=aa hU
     have HW:=aa hW
     rw[hU,hW] at t
     have w1:IntKind.u64.wrap ((U:Int)+1)=((U+1:Nat):Int):=KY z_
     have w2:IntKind.u64.wrap ((W:Int)+1)=((W+1:Nat):Int):=KY z_
     have b7:=t.box.1
     have b2:=aa t
     have Q:=aa H
     obtain⟨d,hd⟩: ∃d,(!decide ((A.pc p).r= -1))=d:=⟨_,rfl⟩
     rw[hd] at a9
     have HD:=aa hd
     clear a1 a0 hU hW t H hd
     cases d
     all_goals
      go_wp2_with (go_at_call 151;refine cH a9.out fun w1 b4=> ?_;have F:=b2.out.below b4.out;obtain⟨_,_,d4,d3,bf⟩:=F.box;have d2:=bf 20;have d1:=bf 21;have c8:=F.lt;have b1:=aa F;have b3:=aa (fun k (q:E k)=>(b4.out.block k (b2.out.Fs q)).trans (Q.out k q));clear F bf)
      go_roundw
     ·have z:=b1.out.put (o:=21) (us':=U) (wh':=W+1) (fun ev hB=>hB.K9 (W+1))
      refine⟨p+1,z_,by go_num,?_,?_⟩
      ·have m:(A.pc p).r= -1:=by simpa using HD.out
       rw[a8.out,if_pos m,Nat.add_zero,HU.out,<-Nat.add_assoc,HW.out]
       exact z.1.below bq
      ·exact fun k q=>(bq.block k (z.1.Fs q)).trans ((z.2 k q).trans (b3.out k q))
     ·simp[RowKit.intOf];omega
     ·have y:=b1.out.put (o:=20) (us':=U+1) (wh':=W) (fun ev hB=>hB.NK (U+1))
      have z:=y.1.put (o:=21) (us':=U+1) (wh':=W+1) (fun ev hB=>hB.K9 (W+1))
      refine⟨p+1,z_,by go_num,?_,?_⟩
      ·have m: ¬(A.pc p).r= -1:=by simpa using HD.out
       rw[a8.out,if_neg m,<-Nat.add_assoc,HU.out,<-Nat.add_assoc,HW.out]
       exact z.1.below bq
      ·exact fun k q=>(bq.block k (z.1.Fs q)).trans ((z.2 k q).trans ((y.2 k q).trans (b3.out k q)))
     ·simp[RowKit.intOf];omega
    ·have a3: ¬(p:Int)<P:=by omega
     have ep:p=P:=z_
     subst ep
     have b7:=t.box.1
     have a2:=t.lt
     have HC:=aa (t.call (l:=iN p n q A) (R:=fun m _ v=>m= .returned v) (fun c7 hi=>hi.tick hn b0.out z_))
     have HE:=aa (fun k (q:E k)=>t.Fs q)
     have Q:=aa H
     clear t H
     go_wp2_with (first
      |(go_at_call 105;refine cI (HR5.out.note HV5.out HL5.out c2.out c1.out) fun w6 c0 c3=> ?_)
      |(go_at_call 17;refine(HC.out).mono ?_;rintro m w5 ⟨v5,rfl,Z,a5,a6⟩;have HV5:=aa Z;have HR5:=aa a5;have HL5:=aa a2;have c4:=aa a6;clear Z a5 a6 a2))
     go_roundw
     case rel=>
      refine⟨j+1,z_,by go_num,?_,by rw[x.out];simpa using c5.out,fun k q=>(c3.out k q).trans ((c4.out k q).trans (Q.out k q)),by rw[x.out];exact S.out⟩
      rw[x.out,b9.out]
      exact c0.out
     case measure=>simp[RowKit.intOf];omega
  ·have a4: ¬(j:Int)<cnt:=by omega
   have ej:j=cnt:=z_
   subst ej
   have HR:=aa (And.intro G (And.intro hK (And.intro I hL)))
   clear G hK I hL
   go_wp2
   go_end0
   exact⟨rfl,HR.out⟩
end
end Go.Proofs.YtnmhcgpnhlhcgaaGreatDoor
namespace Go.Proofs.YtnmhcgpnhlhcgaaGreatDoor
open Go.RowKit Go.Lib Go.Shelf
def B6 (b c:Value) (a:Nat->Nat) (f:Nat):Array Value:= #[b,c,ab (a 0:Int),ab (a 1:Int),ab (a 2:Int),ab (a 3:Int),ab (a 4:Int),ab (a 5:Int),ab (a 6:Int),ab (a 7:Int),ab (a 8:Int),ab (a 9:Int),ab (a 10:Int),ab (a 11:Int),ab (a 12:Int),ab (a 13:Int),ab (a 14:Int),.float .f64 f]
theorem RB.row {w:World} {b m:Nat} {c d:Value} {e:Nat->Nat} {pr:Int} {i g:Nat} (h:RB w b c d e m pr i g) (f:Nat): ∀(j:Nat) (v:Value),(B6 c d e f)[j]? =some v->(w.setCell (af b 17) (.float .f64 f)).cell? (af b j)=some v:=fun j v k=>by
 have l:j<18:=(zW0.1 k).1
 have a: ∀u,(B6 c d e f)[j]? =some u->(w.setCell (af b 17) (.float .f64 f)).cell? (af b j)=some u->(w.setCell (af b 17) (.float .f64 f)).cell? (af b j)=some v:=fun u o n=>by
  grind
 match j,l with
 |0,_=>exact a _ rfl ((aI w z_).trans h.c0)
 |1,_=>exact a _ rfl ((aI w z_).trans h.c1)
 |17,_=>exact a _ rfl (Gt.aU _ _ _ _ h.c17)
 |2,_=>exact a _ rfl ((aI w z_).trans (h.cn 0 x_))
 |3,_=>exact a _ rfl ((aI w z_).trans (h.cn 1 x_))
 |4,_=>exact a _ rfl ((aI w z_).trans (h.cn 2 x_))
 |5,_=>exact a _ rfl ((aI w z_).trans (h.cn 3 x_))
 |6,_=>exact a _ rfl ((aI w z_).trans (h.cn 4 x_))
 |7,_=>exact a _ rfl ((aI w z_).trans (h.cn 5 x_))
 |8,_=>exact a _ rfl ((aI w z_).trans (h.cn 6 x_))
 |9,_=>exact a _ rfl ((aI w z_).trans (h.cn 7 x_))
 |10,_=>exact a _ rfl ((aI w z_).trans (h.cn 8 x_))
 |11,_=>exact a _ rfl ((aI w z_).trans (h.cn 9 x_))
 |12,_=>exact a _ rfl ((aI w z_).trans (h.cn 10 x_))
 |13,_=>exact a _ rfl ((aI w z_).trans (h.cn 11 x_))
 |14,_=>exact a _ rfl ((aI w z_).trans (h.cn 12 x_))
 |15,_=>exact a _ rfl ((aI w z_).trans (h.cn 13 x_))
 |16,_=>exact a _ rfl ((aI w z_).trans (h.cn 14 x_))
attribute [local go_sem ↓] Go.wp_at_zero Go.wp_at_succ
def eY:Array Value:= #[.slice none 0 0,.slice none 0 0,ab 0,ab 0,ab 0,ab 0,ab 0,ab 0,ab 0,ab 0,ab 0,ab 0,ab 0,ab 0,ab 0,ab 0,ab 0,.float .f64 0]
def JM:Array Value:= #[.slice none 0 0,.slice none 0 0,ab 0,ab 0,ab 0,ab 0,ab 0,ab 0,ab 0,ab 0,ab 0,ab 0,ab 0,ab 0,ab 0,ab 0,ab 0,.float .f64 0,.pointer none,ab 0,aj 0,aj 0]
theorem MZ (w:World):(zeroValue 142).run Tryz.prog w= .ok (.agg JM) w:=by rfl
def Hi (m:Nat) (p:Int):Array Value:= #[.slice none 0 0,.slice none 0 0,ab 0,ab 0,ab 0,ab 0,ab 0,ab 0,ab 0,ab 0,ab 0,ab 0,ab 0,ab 0,ab 0,ab 0,ab 0,.float .f64 0,ak m,ab p,aj 0,aj 0]
def J1 (W:World) (m:Nat) (p:Int):(storeCells (ao W.heap.size) ((JM.toList.set 18 (ak m)).set 19 (ab p))).run Tryz.prog (W.alloc (.cells JM 142))= .ok () (W.alloc (.cells (Hi m p) 142)):=
 run_storeCells_new W 142 JM (Hi m p) (by rfl) rfl (by simp[Hi,Value.oneCell'])
def LK (W:World) (m:Nat) (p:Int):RB (W.alloc (.cells (Hi m p) 142)) W.heap.size (.slice none 0 0) (.slice none 0 0) (fun _=>0) m p 0 0:=by
 have k:=fun i u (h:(Hi m p)[i]? =some u)=>bB W (Hi m p) 142 i u h
 refine⟨k 0 _ rfl,k 1 _ rfl,fun i hi=> ?_,k 17 _ rfl,k 18 _ rfl,k 19 _ rfl,k 20 _ rfl,k 21 _ rfl,fun o=> ?_⟩
 ·match i,hi with
  |0,_=>exact k 2 _ rfl
  |1,_=>exact k 3 _ rfl
  |2,_=>exact k 4 _ rfl
  |3,_=>exact k 5 _ rfl
  |4,_=>exact k 6 _ rfl
  |5,_=>exact k 7 _ rfl
  |6,_=>exact k 8 _ rfl
  |7,_=>exact k 9 _ rfl
  |8,_=>exact k 10 _ rfl
  |9,_=>exact k 11 _ rfl
  |10,_=>exact k 12 _ rfl
  |11,_=>exact k 13 _ rfl
  |12,_=>exact k 14 _ rfl
  |13,_=>exact k 15 _ rfl
  |14,_=>exact k 16 _ rfl
 simp
theorem Jg:(Tryz.prog.info? 32).map (fun i=>(i.zero,i.size,i.bytes))=some (some (ab 0),1,8):=by rfl
def wR {w:World} {c a:Nat} {e:TypeId} {b:Nat} {v:Value} {n:Nat} {xs:List Value} (h:w.ownsRow c e b v n xs) (k:a<=c):w.ownsRow a e b v n xs:=by
 obtain⟨i,o|⟨g,f,d,j,m,l⟩⟩:=h
 ·exact⟨i,.inl o⟩
 ·exact⟨i,.inr ⟨g,f,d,j,zY0 k m,l⟩⟩
def FS (b a f:Nat):Prop:=match floatBits .quo .f64 (floatOfInt .f64 (b:Int)) (floatOfInt .f64 (a:Int)) with|none=> ¬Fl.PD f|some r=>f=r
def Dy (b a:Nat) (w:World):aB 61 #[aj b,aj a] w fun e d=> ∃r,e= .returned (.float .f64 r)/\FS b a r/\(d=w\/d=w.drew):=by
 unfold FS
 cases h:floatBits .quo .f64 (floatOfInt .f64 (b:Int)) (floatOfInt .f64 (a:Int)) with
 |none=>
  have c: ∀w,(binOp .quo 58 (.float .f64 (floatOfInt .f64 (b:Int))) (.float .f64 (floatOfInt .f64 (a:Int)))).run Tryz.prog w= .ok (.float .f64 (Fl.wF w (floatOfInt .f64 (b:Int)) (floatOfInt .f64 (a:Int)))) w.drew:=fun w=>Fl.rH w 58 _ _ h
  clear h
  refine ge ?_
  go_wp2
  go_ret
  exact⟨_,rfl,Fl.Di _ _ _,.inr rfl⟩
 |some r=>
  have c: ∀w,(binOp .quo 58 (.float .f64 (floatOfInt .f64 (b:Int))) (.float .f64 (floatOfInt .f64 (a:Int)))).run Tryz.prog w= .ok (.float .f64 r) w:=fun w=>run_float_arith w .quo 58 .f64 _ _ _ h
  clear h
  refine ge ?_
  go_wp2
  go_ret
  exact⟨r,rfl,rfl,.inl rfl⟩
def Steps (w:World) (P n q:Nat) (L:List Ex.En) (J:Nat->Nat->Mc->List Ev->List Int->Nat->Nat->Prop):Prop:=
 ∀(j:Nat) (x:Ex.En),L[j]? =some x-> ∀V p T M i h b o E m l a k,J j T M h b m l->RS m l w V p P n q T M i h b o E->Ex.lJ V a x.code.length (Ex.cO x.code) (Ex.cR x.code)->
  aB 60 #[ak i,Oi x a k] V (fun e t=> ∃r s d c g f,Comes g f w p P n q r s i d b o E c V e t/\J (j+1) r s d (b++[c]) g f)
def L5 (P n q m qu ag:Nat) (hP:1<=P/\P<=64) (hn:1<=n/\n<=1024) (hq:1<=q/\q<=256) (hm:m<=32) (e7:1<=qu/\qu<18446744073709551616) (f8:1<=ag/\ag<18446744073709551616) (w:World) (ht:Gt.pv w) (bv:Value) (L:List Ex.En) (hL:L.length<=1000)
  (b3: ∀V,aC w V->aB 32 #[bv] V (Ex.OC V 86 L)) (J:Nat->Nat->Mc->List Ev->List Int->Nat->Nat->Prop) (g1:J 0 0 (gz P n m qu ag) [] [] 0 0) (e4:Steps w P n q L J):
  aB 25 #[.agg #[ab P,ab n,ab q,ab m,aj qu,aj ag],bv] w fun e w'=> ∃ev er f T M o l us wh,J L.length T M o l us wh/\e=aS #[.agg (B6 ev er (iH (fun _=>0) o) f),ab 0]/\FS us wh f/\fK w' w.heap.size ev o/\KG w' w.heap.size er l/\aC w w':=by
 obtain⟨W0,D⟩: ∃W0,(w.alloc (.cells #[ab P,ab n,ab q,ab m,aj qu,aj ag] 30)).alloc (.cells eY 60)=W0:=⟨_,rfl⟩
 have c9:aC w W0:=by rw[<-D];exact bq.alloc q_ _
 have b9:W0.heap.size=w.heap.size+2:=by rw[<-D];simp
 have k0:W0.cell? (ao w.heap.size)=some (ab P):=by
  rw[<-D]
  simp
 have kz:W0.heap[w.heap.size+1]? =some (.cells eY 60 (0,0)):=by
  rw[<-D]
  have:=(MapKept.heap_alloc (w.alloc (.cells #[ab P,ab n,ab q,ab m,aj qu,aj ag] 30)) (.cells eY 60)).1
  simp_all
 have HN:Hid (aB 11 #[.agg #[ab P,ab n,ab q,ab m,aj qu,aj ag]] W0 fun e w'=> ∃a,e= .returned (ak a.m)/\nQ w w' a P n q 0 (gz P n m qu ag) (fun k=>k=w.heap.size\/k=w.heap.size+1)/\w'.cell? (ao w.heap.size)=some (ab P)/\w'.heap[w.heap.size+1]? =some (.cells eY 60 (0,0))):=by
  refine(ig P n q m qu ag hP hn hq hm e7 f8 _ (ht.below c9)).mono ?_
  rintro e w' ⟨a,d9,he,hi,hl,hb⟩
  refine⟨a,he,⟨⟨d9,hi,fun k hk=> ?_,fun k q=>⟨?_,?_⟩⟩,bt c9 hb⟩,kc hb k0,(hb.block _ z_).trans kz⟩
  ·grind
  ·grind
  ·have:=hb.size
   omega
 have HD:Hid (∀V,aC w V->aB 32 #[bv] V fun e w'=> ∃v,e=aS #[v,ab 0,ab 0]/\OV w' v L (fun k=>V.heap.size<=k/\k<w'.heap.size)/\aC V w'):=fun V hV=>by
  refine(b3 V hV).mono ?_
  rintro e w' ⟨Z,v,hZ,rfl,hR,hb⟩
  have:=OV.of hR
  grind
 have l7:=aa e4
 have h3:=aa g1
 have l5:=aa D
 have n9:=MZ
 have o2:=J1
 clear c9 k0 ht b3 e4 g1 hP hn hq hm e7 f8 D b9 kz
 refine ge ?_
 go_wp2_with (go_at_call 11;have C:=l5.out;unfold eY at C;rw[C];refine(HN.out).mono ?_;rintro e w1 ⟨ad,rfl,R,c1,z1⟩;have a0:=aa R;have l4:=aa z1;clear R z1 HN C)
 obtain⟨F,g4⟩: ∃F:World->Nat->Prop,∀b k,F b k↔((k=w.heap.size\/k=w.heap.size+1)\/(w1.heap.size<=k/\k<b.heap.size)):=⟨fun b k=>(k=w.heap.size\/k=w.heap.size+1)\/(w1.heap.size<=k/\k<b.heap.size),fun _ _=>Iff.rfl⟩
 have t:=aa g4
 clear g4
 go_wp2_with (go_at_call 32;refine(HD.out w1 a0.out.jC).mono ?_;rintro e b ⟨v2,rfl,c0,c8⟩;obtain⟨a2,p2,rfl⟩:=c0.len;have m4:=aa c0;have c2:=kc c8 c1;have d6:=aa c8;clear c0 c8 HD)
 have l0:w.heap.size+1<w1.heap.size:=by
  obtain⟨⟨d9,hi,h1,h2⟩,hb⟩:=a0.out
  grind
 have o4:w1.heap.size<=b.heap.size:=d6.out.size
 have b5:Hid (RS 0 0 w (b.alloc (.cells (Hi ad.m (P:Int)) 142)) ad P n q 0 (gz P n m qu ag) b.heap.size [] [] (.slice none 0 0) (F b)):=by
  refine⟨.slice none 0 0,a0.out.below (bt d6.out bq) (fun k q=> ?_),by rw[vI];exact LK b ad.m (P:Int),fK.nil _ _,⟨rfl,.inl ⟨rfl,rfl⟩⟩,fun k q=>⟨?_,by simp[Value.ownBlock],by simp[Value.ownBlock]⟩,z_,z_⟩
  ·have o1:(b.alloc (.cells (Hi ad.m (P:Int)) 142)).heap.size=b.heap.size+1:=by simp
   rcases q with q|q|q|q
   ·omega
   ·simp[Value.ownBlock] at q
   ·simp[Value.ownBlock] at q
   ·rcases(t.out b k).1 q with q|q
    ·omega
    omega
  ·rcases(t.out b k).1 q with q|q
   ·omega
   ·omega
 have h0:Hid (∀k,F b k->(b.alloc (.cells (Hi ad.m (P:Int)) 142)).heap[k]? =b.heap[k]?):=fun k q=>zU0 _ _ _ (by rcases(t.out b k).1 q with q|q<;>omega)
 generalize (b.alloc (.cells (Hi ad.m (P:Int)) 142))=W3 at*
 obtain⟨len,H⟩: ∃len,L.length=len:=⟨_,rfl⟩
 have b7:=aa H
 rw[H] at hL|-
 clear H
 go_loopw [34] (fun iv wr=> ∃(j T:Nat) (M:Mc) (o:List Ev) (l:List Int) (er:Value) (us wh:Nat),j<=len/\iv=ab j/\l.length=j/\J j T M o l us wh/\RS us wh w wr ad P n q T M b.heap.size o l er (F b)/\ ∀k,F b k->wr.heap[k]? =b.heap[k]?) (fun iv _=>len-(RowKit.intOf iv).toNat)
 case atStart=>exact⟨0,0,_,[],[],_,0,0,Nat.zero_le _,rfl,rfl,h3.out,b5.out,h0.out⟩
 case round=>
  obtain⟨j,T,M,o,l,er,us,wh,hj,rfl,c4,hJ,hR,r⟩:=hrel
  obtain⟨ae,ce,rfl⟩:=Cb.aJ hR.N7.1
  clear b5 h0 h3
  by_cases k7:j<len
  ·have f1:(j:Int)<len:=by omega
   obtain⟨x,hx⟩: ∃x,L[j]? =some x:=⟨L[j]'(by rw[b7.out];exact k7),zX0 _⟩
   obtain⟨g,X,U,⟨cq,k3⟩,g3,N,b1⟩:=m4.out.at_ j x hx
   injection k3 with e3 e2 e1
   subst e3
   have f4:F b g:=(t.out b g).2 (.inr g3)
   have f2:=r g f4
   have y: ∀(i:Nat) (u:Value),(Ex.ec x X U)[i]? =some u->wr.cell? (af g (j*10+i))=some u:=fun i u hu=>(i5 f2).trans (N i u hu)
   have y0:=y 0 _ rfl;have y1:=y 1 _ rfl;have y2:=y 2 _ rfl;have y3:=y 3 _ rfl;have y4:=y 4 _ rfl
   have y5:=y 5 _ rfl;have y6:=y 6 _ rfl;have y7:=y 7 _ rfl;have y8:=y 8 _ rfl;have y9:=y 9 _ rfl
   rw[Nat.add_zero] at y0
   have a4:aC wr ((wr.alloc (.cells #[ab x.d,ab x.p,aj x.dr,ab x.n,.slice X x.code.length U,aj x.bu,aj x.pe,ab x.pr,aA x.lv,ab x.sv] 86)).drew):=bq.drew
   have n6:((wr.alloc (.cells #[ab x.d,ab x.p,aj x.dr,ab x.n,.slice X x.code.length U,aj x.bu,aj x.pe,ab x.pr,aA x.lv,ab x.sv] 86)).drew).heap.size=wr.heap.size+1:=q_
   have A: ∀k,F b k->k<wr.heap.size:=fun k q=>hR.Fs q
   have s:=hR.add a4 (E':=fun k=>F b k\/k=wr.heap.size) (fun k q=>q.elim .inl (fun q=> .inr ⟨z_,z_⟩))
   have h8:=aa (l7.out j x hx ((wr.alloc (.cells #[ab x.d,ab x.p,aj x.dr,ab x.n,.slice X x.code.length U,aj x.bu,aj x.pe,ab x.pr,aA x.lv,ab x.sv] 86)).drew) ad T M b.heap.size o l _ _ us wh X U hJ s (b1 _ (fun k q=>(a4.block k (A k ((t.out b k).2 (.inr q)))).trans (r k ((t.out b k).2 (.inr q)))) (fun k q=>by have:=A k ((t.out b k).2 (.inr q));omega)))
   have bb:=fun (i:Nat) (u:Value) (h:(#[ab x.d,ab x.p,aj x.dr,ab x.n,.slice X x.code.length U,aj x.bu,aj x.pe,ab x.pr,aA x.lv,ab x.sv]:Array Value)[i]? =some u)=>kc (W:=((wr.alloc (.cells #[ab x.d,ab x.p,aj x.dr,ab x.n,.slice X x.code.length U,aj x.bu,aj x.pe,ab x.pr,aA x.lv,ab x.sv] 86)).drew)) cj.drew (bB wr #[ab x.d,ab x.p,aj x.dr,ab x.n,.slice X x.code.length U,aj x.bu,aj x.pe,ab x.pr,aA x.lv,ab x.sv] 86 i u h)
   have HS:Hid (∀W:World,W.heap[wr.heap.size]? =((wr.alloc (.cells #[ab x.d,ab x.p,aj x.dr,ab x.n,.slice X x.code.length U,aj x.bu,aj x.pe,ab x.pr,aA x.lv,ab x.sv] 86)).drew).heap[wr.heap.size]? ->(W.cell? (ao wr.heap.size)=some (ab x.d)/\W.cell? (af wr.heap.size 1)=some (ab x.p)/\W.cell? (af wr.heap.size 2)=some (aj x.dr)/\W.cell? (af wr.heap.size 3)=some (ab x.n)/\W.cell? (af wr.heap.size 4)=some (.slice X x.code.length U)/\W.cell? (af wr.heap.size 5)=some (aj x.bu)/\W.cell? (af wr.heap.size 6)=some (aj x.pe)/\W.cell? (af wr.heap.size 7)=some (ab x.pr)/\W.cell? (af wr.heap.size 8)=some (aA x.lv)/\W.cell? (af wr.heap.size 9)=some (ab x.sv))):=fun W hW=>⟨(i5 hW).trans (bb 0 _ rfl),(i5 hW).trans (bb 1 _ rfl),(i5 hW).trans (bb 2 _ rfl),(i5 hW).trans (bb 3 _ rfl),(i5 hW).trans (bb 4 _ rfl),(i5 hW).trans (bb 5 _ rfl),(i5 hW).trans (bb 6 _ rfl),(i5 hW).trans (bb 7 _ rfl),(i5 hW).trans (bb 8 _ rfl),(i5 hW).trans (bb 9 _ rfl)⟩
   have e9:wr.heap.size≠b.heap.size:=by have:=hR.lt;omega
   have o5:=s.N7.2.1
   have m8:=aa (fun k (q:F b k)=>(a4.block k (A k q)).trans (r k q))
   have k5:l.length<=1000:=z_
   have n2:=aa c4
   obtain⟨i0,k8,b9,k2,k1⟩:=Cb.info_parts Jg
   unfold Oi at h8
   clear N b1 hJ hR r hx g3 f4 f2 y e2 e1 a4 s bb A c4
   go_wp2
   refine wp_region_held_drew (S:=(fun w'=>w'.cell? (ao wr.heap.size)=some (ab x.d)/\w'.cell? (af wr.heap.size 1)=some (ab x.p)/\w'.cell? (af wr.heap.size 2)=some (aj x.dr)/\w'.cell? (af wr.heap.size 3)=some (ab x.n)/\w'.cell? (af wr.heap.size 4)=some (.slice X x.code.length U)/\w'.cell? (af wr.heap.size 5)=some (aj x.bu)/\w'.cell? (af wr.heap.size 6)=some (aj x.pe)/\w'.cell? (af wr.heap.size 7)=some (ab x.pr)/\w'.cell? (af wr.heap.size 8)=some (aA x.lv)/\w'.cell? (af wr.heap.size 9)=some (ab x.sv))) (by rfl) ?_ (fun hHeld=> ?_)
   ·simp
   refine st ?_
   repeat' first
    |refine dn ?_
    |refine tk ?_
    |refine rd ?_
    |exact oA
    |refine oE ?_
    |refine oC ?_ ?_
    | (refine dU 4 (fun K r=> ?_)
       go_simp
       go_at_call 60
       refine(h8.out).mono ?_
       rintro e w5 ⟨T5,M5,g6,c5,i3,i2,k9,g0⟩
       obtain⟨rfl,Q,a8⟩:=k9
       have c6:=a8 _ (.inr rfl)
       have p1:=Q.N7.2.1
       have a3:aC w5 (w5.alloc (.cells #[ab c5] 32)):=bq
       have a5:=Q.below a3
       have p0:=a5.N7.2.1
       have g9:=aa a5
       have m5:=aa a5.N7.1
       have p8:=aa a8
       have n1:=aa g0
       have p6:=aa (HS.out w5 c6)
       have d3:=(a3.block _ (Q.Fs (k:=wr.heap.size) (.inr rfl))).trans c6
       have p5:=aa (HS.out _ d3)
       have n5:=aa d3
       have n0:=aa (fun k (q:F b k)=>(a3.block k (Q.Fs (.inl q))).trans ((a8 k (.inl q)).trans (m8.out k q)))
       clear Q a8 g0 c6 a3 a5 d3
       refine r.out _ _ ?_ (fun hHeld=> ?_)
       ·assumption
       clear r K
       try simp only[cV])
    | (refine dU 6 (fun K r=> ?_)
       refine cC _ (by rfl) _ _ _ (by rfl) (b.heap.size+1) 32 i0 (ab 0) 1 8 Tryz.underlying56 k8 b9 k2 k1 rfl x_ (.slice ae l.length ce) l.length (l.map (fun e=>ab e)) (by rfl) m5.out (ao w5.heap.size) 1 1 [ab c5] (by rfl) rfl (Cb.gG (w1:=w5) (c:=[ab c5]) rfl) (by simp[Value.oneCell']) (by unfold maxLen;omega) z_ (by have:=g9.out.lt;omega) ?_
       intro v7 w7 c3 f3 b4
       obtain⟨c7,f7,f9,a6⟩:=g9.out.err c3 f3 b4
       obtain⟨a7,d7,rfl⟩:=Cb.aJ c3
       have m3:=aa f9
       have p7:=aa a6
       have d2:=(a6 _ (.inr rfl)).trans n5.out
       have p3:=aa (HS.out _ d2)
       have p4:=aa (HS.out w7 ((zZ0 _ _ _ _ e9).symm.trans d2))
       have d5:=aa (fun k (q:F b k)=>(a6 k (.inl q)).trans (n0.out k q))
       clear c3 f3 b4 f9 a6 d2
       refine r.out _ _ ?_ (fun hHeld=> ?_)
       ·assumption
       clear r K
       try simp only[cV])
    | (refine dU _ (fun K r=> ?_)
       go_simp
       refine r.out _ _ ?_ (fun hHeld=> ?_)
       ·omega
       clear r K
       try simp only[cV])
    | (refine dU _ (fun K r=> ?_)
       go_simp
       refine r.out _ _ ?_ (fun hHeld=> ?_)
       ·assumption
       clear r K
       try simp only[cV])
   all_goals
    refine⟨?_⟩
    go_wp2
    go_roundw
    case rel=>exact⟨j+1,T5,M5,g6,l++[c5],_,i3,i2,z_,by go_num,by simp[n2.out],n1.out,m3.out.less (fun k q=> .inl q),d5.out⟩
    case measure=>simp[RowKit.intOf];omega
  ·have f1: ¬(j:Int)<len:=by omega
   have ej:j=len:=z_
   subst ej
   have f6:wr.heap[w.heap.size+1]? =some (.cells eY 60 (0,0)):=(r _ ((t.out b _).2 (.inl (.inr rfl)))).trans ((d6.out.block _ l0).trans l4.out)
   have g5:=hR.jC
   have n8:w.heap.size+1<wr.heap.size:=y_
   obtain⟨ev,hA,s,d0,g2,hs,C,n7⟩:=hR
   obtain⟨l2,l1,rfl⟩:=Cb.aJ d0
   have j1:=s.c20;have j0:=s.c21
   have l8:=aa (Dy us wh)
   have e8: ¬w.heap.size+1=b.heap.size:=z_
   have HJ:=aa hJ
   have h6:=aa d0
   have h7:=aa g2
   have Y:=aa g5
   have m2:=aa s
   have n4:=aa f6
   have m0:=aa C
   clear hA s d0 g2 hs hJ r f6 g5 c4 C
   go_upto_region 14 with (go_at_call 61;refine(l8.out _).mono ?_;rintro e E ⟨f,rfl,hf,G⟩;have G:E.heap=wr.heap/\E.os=wr.os/\E.tape=wr.tape/\E.output=wr.output:=(by rcases G with q|q<;>rw[q]<;>exact⟨rfl,rfl,rfl,rfl⟩);have a9: ∀k:Nat,E.heap[k]? =wr.heap[k]? :=(fun k=>by rw[G.1]);have B:=m2.out.kept (a9 _);have j2:=B.c17;have d8:=B.fz 17;have b6:=aa B;have b8:=aa ((a9 _).trans n4.out);have i1:=aa a9;have g7:=aa G;have m6:=aa hf;clear G a9 B hf)
   have e5:=b6.out.row f
   have O:(E.setCell (af b.heap.size 17) (.float .f64 f)).heap[w.heap.size+1]? =some (.cells eY 60 (0,0)):=(zZ0 _ _ _ _ e8).trans b8.out
   have f0: ∀k:Nat,k≠b.heap.size->(E.setCell (af b.heap.size 17) (.float .f64 f)).heap[k]? =wr.heap[k]? :=fun k hk=>(zZ0 _ _ _ _ hk).trans (i1.out k)
   have b0:(E.setCell (af b.heap.size 17) (.float .f64 f)).heap.size=wr.heap.size:=by rw[World.size_setCell,g7.out.1]
   have b2:(E.setCell (af b.heap.size 17) (.float .f64 f)).os=wr.os/\(E.setCell (af b.heap.size 17) (.float .f64 f)).tape=wr.tape/\(E.setCell (af b.heap.size 17) (.float .f64 f)).output=wr.output:=g7.out.2
   generalize (E.setCell (af b.heap.size 17) (.float .f64 f))=w9 at*
   obtain⟨row,a1⟩: ∃row,(B6 (.slice l2 o.length l1) (.slice ae l.length ce) (iH (fun _=>0) o) f).toList=row:=⟨_,rfl⟩
   have d1:row.length=18:=by rw[<-a1];rfl
   have R:row.toArray.all (·.oneCell')=true:=by
    rw[<-a1]
    simp[B6,Value.oneCell']
   have e6:w9.rangeAt b.heap.size 0 row:=fun j v hv=>by
    grind
   have f5: ∀j:Nat,(w9.setRow (w.heap.size+1) row.toArray).cell? (af (w.heap.size+1) j)=row[j]? :=fun j=>by rw[cell_setRow_same w9 _ j eY _ _ (0,0) O];simp
   have I:(Tryz.prog.info? 60).map (·.size)=some row.length:=by rw[d1];rfl
   have z:(Tryz.prog.info? 60).map (·.size)=some row.toArray.size:=z_
   have e0:eY.size=row.toArray.size:=by show 18=row.toArray.size;grind
   have h9:=aa O
   have m1:=aa e6
   have a0:=aa R
   have h5:=aa I
   have h4:=aa z
   have l3:=aa e0
   have g8:=aa a1
   have n3:=aa f5
   have p9:=aa d1
   have d5:=aa f0
   have l6:=aa b0
   have d4:=aa b2
   clear e5 O f0 b0 b2 R f5 b6 b8 i1 j2 d8 j1 j0 e6 I z e0 a1 d1
   go_wp2_with (first
    |(refine wpList_load_mid rfl 60 _ rfl b.heap.size 0 (by rfl) row _ m1.out Tryz.underlying60 rfl h5.out ?_)
    |(refine wpList_store_row rfl 60 _ _ rfl (w.heap.size+1) row.toArray (by rfl) (by rfl) 60 eY h9.out h4.out l3.out a0.out ?_))
   have k4:=run_loadVar_mid (P:=Tryz.prog) (w9.setRow (w.heap.size+1) row.toArray) (w.heap.size+1) 0 60 row _ (fun j v hv=>by rw[Nat.zero_add];exact(n3.out j).trans hv) Tryz.underlying60 rfl h5.out
   refine bodyPost_ret (v:= .tuple #[.agg row.toArray,ab 0]) ?_ rfl ?_
   ·simp[results,Tryz.f25,asAddr,k4]
   ·have o3:=m0.out
    have k6: ∀k:Nat,k≠b.heap.size->k≠w.heap.size+1->(w9.setRow (w.heap.size+1) row.toArray).heap[k]? =wr.heap[k]? :=fun k h1 h2=>(setRow_other _ _ _ _ h2).trans (d5.out k h1)
    refine⟨_,_,f,T,M,o,l,us,wh,by rw[b7.out];exact HJ.out,by rw[<-g8.out],m6.out,?_,?_,?_⟩
    ·exact aQ (wR h6.out z_) (fun k q=>by have:=(h6.out.EJ q).1;grind)
    ·exact aQ (wR h7.out z_) (fun k q=>by have:=(h7.out.lt q).1;grind)
    ·refine⟨d4.out.1.trans Y.out.os,d4.out.2.1.trans Y.out.tape,d4.out.2.2.trans Y.out.output,?_,fun k hk=>(k6 k z_ z_).trans (Y.out.block k hk)⟩
     have h1:=Y.out.size
     have h2:(w9.setRow (w.heap.size+1) row.toArray).heap.size=w9.heap.size:=q_
     rw[h2,l6.out]
     exact h1
end Go.Proofs.YtnmhcgpnhlhcgaaGreatDoor
namespace Go.Proofs.YtnmhcgpnhlhcgaaGreatDoor
open Go.RowKit Go.Lib Go.Shelf
structure Ru where
 M:Mc
 ev:List Ev
 er:List Int
 us:Nat
 wh:Nat
noncomputable def jB (P n q:Nat) (s:Ru) (x:Ex.En):Ru:=
 if x.d=1 then⟨sM P n q s.M x.p x.dr,s.ev++sL P n q s.M x.p x.dr,s.er++[sC P x.p],s.us,s.wh⟩
 else if x.d=2 then⟨(cF P n q (s.M,s.ev,s.us,s.wh) x.n.toNat).1,(cF P n q (s.M,s.ev,s.us,s.wh) x.n.toNat).2.1,s.er++[0],(cF P n q (s.M,s.ev,s.us,s.wh) x.n.toNat).2.2.1,(cF P n q (s.M,s.ev,s.us,s.wh) x.n.toNat).2.2.2⟩
 else if x.d=3 then⟨lM s.M ⟨x.code.length,Ex.cO x.code,Ex.cR x.code⟩,s.ev,s.er++[if s.M.pr.length<16 then 0 else 4],s.us,s.wh⟩
 else if x.d=4 then⟨{s.M with sv:=Cb.zo P s.M.sv x.bu x.pe},s.ev,s.er++[(Cb.pH P s.M.sv x.bu x.pe:Int)],s.us,s.wh⟩
 else⟨gM P n q s.M x.pr x.lv x.sv,s.ev++gL s.M n x.pr x.sv,s.er++[gC s.M n x.pr x.sv],s.us,s.wh⟩
noncomputable def Hg (P n q m qu ag:Nat) (L:List Ex.En):Ru:=L.foldl (jB P n q) ⟨gz P n m qu ag,[],[],0,0⟩
def wX (L:List Ex.En):Nat:=(L.map (fun x=>x.n.toNat)).sum
def qL (L:List Ex.En) (x:Ex.En):wX (L++[x])=wX L+x.n.toNat:=by simp[wX]
def GA (P n q m a b:Nat) (L:List Ex.En) (x:Ex.En):Hg P n q m a b (L++[x])=jB P n q (Hg P n q m a b L) x:=by simp[Hg]
structure JR (P n q m qu ag:Nat) (L:List Ex.En) (T:Nat) (M:Mc) (evs:List Ev) (errs:List Int) (us wh:Nat):Prop where
 e:Hg P n q m qu ag L=⟨M,evs,errs,us,wh⟩
 t:T<=1000*(L.length+wX L)
 i:Iv P n L.length [] M
 l:evs.length<=40*L.length+110*wX L
 p:M.pr.length<=16
 u:us<=P*wX L
 w:wh=P*wX L
section
variable {w V:World} {i:Ad} {P n q m qu ag T:Nat} {M:Mc} {f e wh:Nat} {b:List Ev} {a:List Int} {h:Value} {E:Nat->Prop}
def CR (hP:1<=P/\P<=64) (hn:1<=n/\n<=12) (L:List Ex.En) (hL:L.length<=1000) (ht:wX L<=1000) (hr:Ex.gu L):Steps w P n q L (fun j T M b a e wh=>JR P n q m qu ag (L.take j) T M b a e wh):=by
 intro j x S V i T M f b a h E e wh o A hJ X a4
 have hj:j<L.length:=(i6.1 S).1
 have a3:L.take (j+1)=L.take j++[x]:=by rw[List.take_add_one,S];rfl
 have a9:(L.take j).length=j:=by simp;omega
 have a8:wX (L.take j)+x.n.toNat<=1000:=by
  have B:wX L=wX (L.take (j+1))+wX (L.drop (j+1)):=by
   unfold wX
   rw[<-List.sum_append,<-List.map_append,List.take_append_drop]
  rw[a3,qL] at B
  omega
 obtain⟨he,hT,y,hl,hp,hu,hw⟩:=hJ
 rw[a9] at hT y hl
 have b5:IW n<=600:=by
  unfold IW zn
  omega
 have H:=GA P n q m qu ag (L.take j) x
 rw[he] at H
 have r:=qL (L.take j) x
 have u:(L.take j++[x]).length=j+1:=by simp;omega
 dsimp only
 rw[a3]
 have G: ∀{M' evs' c T'},x.n=0->jB P n q ⟨M,b,a,e,wh⟩ x=⟨M',evs',a++[c],e,wh⟩->T'<=T+1000->Iv P n (j+1) [] M'->evs'.length<=b.length+40->M'.pr.length<=16->JR P n q m qu ag (L.take j++[x]) T' M' evs' (a++[c]) e wh:=fun h0 B h2 h3 h4 h5=>by
  rw[h0] at r
  exact⟨H.trans B,by rw[u,r];simp;omega,by rw[u];exact h3,by rw[u,r];simp;omega,h5,by rw[r];simpa using hu,by rw[r];simpa using hw⟩
 obtain⟨a7,a0⟩:=hr x (i9 S)
 rcases a7 with ⟨J,B,h2⟩|⟨J,B,h2⟩|⟨J,B⟩|J|⟨J,B,h2,h3,h4⟩
 ·obtain⟨p,d,rfl⟩: ∃p d,x=Ex.dB p d:=⟨_,_,J⟩
  have U:=NV (q:=q) (p:=p) (d:=d) y
  have b7:d<18446744073709551616:=a0.dr
  obtain⟨Q,hi⟩:=X.is
  have z:=y.step (q:=q) z_ hi p d ⟨z_,z_⟩ z_
  refine(RS.JJ (l:=sL P n q M p d) (c:=sC P p) (T':=T+IW n) (M':=sM P n q M p d) (V:=V) X p d 0 o 0 A 0 0 0 0 0 (U.to aT (by omega:(1:Int)<=1) (by omega:(10:Int)<=14)).PF (by have:=U.1;omega) (fun Y Z I=> ?_)).mono ?_
  ·exact I.call (R:=fun k _ v=>k=aS #[v,ab (sC P p)]) (fun Q hi=>hi.vK y z_ p d ⟨z_,z_⟩ z_)
  ·intro k N W
   exact⟨_,_,_,_,e,wh,W,G rfl rfl z_ z (by have:=U.1;simp;omega) (by rw[OE];exact hp)⟩
 ·obtain⟨c,rfl⟩: ∃c:Nat,x=Ex.dg (c:Int):=⟨x.n.toNat,by rw[show((x.n.toNat:Nat):Int)=x.n by omega];exact J⟩
  have b2:(Ex.dg (c:Int)).n.toNat=c:=Int.toNat_natCast c
  rw[b2] at a8 r
  have F:c*((n+1)*n+n)<=c*200:=Nat.mul_le_mul_left _ (by
   have:(n+1)*n<=13*12:=Nat.mul_le_mul z_ hn.2
   omega)
  have b4:P*wX (L.take j)<=64*1000:=Nat.mul_le_mul hP.2 z_
  have a2:=fun (Y:World) Z (I:RS e wh w Y i P n q T M f b a h Z)=>I.lO c hP.2 hn.2 z_ z_ z_ z_ z_ y
  obtain⟨_,_,_,_,_,z,b6⟩:=lp (a2 V E X)
  have a1:=uy (P:=P) (n:=n) (q:=q) (M,b,e,wh) c
  have a5:=Aa (P:=P) (n:=n) (q:=q) (M,b,e,wh) c
  have b1:jB P n q ⟨M,b,a,e,wh⟩ (Ex.dg (c:Int))=⟨(cF P n q (M,b,e,wh) c).1,(cF P n q (M,b,e,wh) c).2.1,a++[0],(cF P n q (M,b,e,wh) c).2.2.1,(cF P n q (M,b,e,wh) c).2.2.2⟩:=by
   show jB P n q ⟨M,b,a,e,wh⟩ ⟨2,0,0,(c:Int),[],0,0,0,0,0⟩=_
   unfold jB
   rfl
  rw[b1] at H
  generalize cF P n q (M,b,e,wh) c=s at*
  refine(RS.I0 (T':=T+c*((n+1)*n+n)) (M':=s.1) (evs':=s.2.1) (us':=s.2.2.1) (wh':=s.2.2.2) (V:=V) X 0 0 (c:Int) o 0 A 0 0 0 0 0 z_ (fun Y Z I=>(a2 Y Z I).mono (fun k N F=>⟨F.1,F.2.1,F.2.2.1⟩))).mono ?_
  intro k N b3
  dsimp only at a1 a5
  refine⟨_,_,_,_,_,_,b3,H,by rw[u,r];omega,by rw[u];exact z.more z_,by rw[u,r];omega,by rw[a5];exact hp,?_,?_⟩
  ·rw[r,Nat.mul_add,Nat.mul_comm P c]
   omega
  ·rw[r,Nat.mul_add,Nat.mul_comm P c,a1.2]
   omega
 ·obtain⟨C,rfl⟩: ∃C,x=Ex.cK C:=⟨_,J⟩
  have B:Ex.Rt C.length (Ex.cO C) (Ex.cR C):=B
  have z:=y.zY ⟨C.length,Ex.cO C,Ex.cR C⟩
  refine(RS.Hk (T':=T) (M':=lM M ⟨C.length,Ex.cO C,Ex.cR C⟩) (c:=if M.pr.length<16 then 0 else 4) (V:=V) X 0 0 0 o C.length A 0 0 0 0 0 z_ (fun Y Z hb I=> ?_)).mono ?_
  ·refine I.AK (R:=fun k N=> ∃x,k=aS #[ab x,ab (if M.pr.length<16 then 0 else 4)]) (fun Q hi=> ?_)
   have a6:=a4.below hb
   unfold lM
   by_cases D:M.pr.length<16
   ·rw[if_pos D,if_pos ⟨B,D⟩]
    exact(hi.vB o C.length A _ _ a6 B D).mono (fun k N F=>⟨⟨_,F.1⟩,F.2⟩)
   ·rw[if_neg D,if_neg (fun q=>D q.2)]
    exact(hi.sQ o C.length A _ _ a6 B z_).mono (fun k N F=>⟨⟨_,F.1⟩,hi.r4 F.2 aT⟩)
  ·intro k N W
   refine⟨_,_,_,_,e,wh,W,G rfl rfl z_ (z.more z_) z_ ?_⟩
   unfold lM
   split
   ·simp
    omega
   ·omega
 ·obtain⟨bu,pe,rfl⟩: ∃bu pe,x=Ex.cT bu pe:=⟨_,_,J⟩
  refine(RS.GU (V:=V) X 0 0 0 o 0 A bu pe 0 0 0 z_).mono ?_
  intro k N W
  refine⟨_,_,_,_,e,wh,W,G rfl rfl z_ ?_ z_ hp⟩
  exact⟨y.tl,y.pl,y.kr,y.qu,y.sl,y.r1,y.r2,y.r3,fun x S hs=>(by have t:=y.th x S hs;exact⟨t.p,t.g,t.pg,t.pc⟩),y.st,y.rd,y.bl,y.sp,y.wl,y.wt,y.nd,y.l32,fun x S=>zY0 (y.gb x S) z_⟩
 ·obtain⟨pg,O,sv,rfl⟩: ∃pg O sv,x=Ex.bV pg O sv:=⟨_,_,_,J⟩
  have b0:O<256:=a0.lv
  have U:=OU (M:=M) (n:=n) (pg:=pg) (sv:=sv)
  have z:=y.xu (q:=q) hP.1 pg O sv
  refine(RS.Fq (l:=gL M n pg sv) (c:=gC M n pg sv) (T':=T+n+1+n) (M':=gM P n q M pg O sv) (V:=V) X 0 0 0 o 0 A 0 0 pg O sv (U.to aT (by omega:(1:Int)<=9) (by omega:(9:Int)<=14)).PF (by have:=U.1;omega) (fun Y Z I=> ?_)).mono ?_
  ·exact I.call (R:=fun k _ v=>k=aS #[v,ab (gC M n pg sv)]) (fun Q hi=>hi.sJ y z_ pg O b0 sv z_)
  ·intro k N W
   exact⟨_,_,_,_,e,wh,W,G rfl rfl z_ z (by have:=U.1;simp;omega) (by rw[OI];exact hp)⟩
end
attribute [local go_sem ↓] Go.wp_at_zero Go.wp_at_succ
end Go.Proofs.YtnmhcgpnhlhcgaaGreatDoor

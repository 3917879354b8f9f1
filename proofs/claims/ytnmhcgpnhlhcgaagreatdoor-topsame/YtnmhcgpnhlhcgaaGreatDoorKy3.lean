import Derived.Test.YtnmhcgpnhlhcgaaGreatDoorKy
namespace Go.Proofs.YtnmhcgpnhlhcgaaGreatDoor
set_option maxHeartbeats 16000000
set_option linter.unusedVariables false
set_option linter.unusedSimpArgs false
set_option maxRecDepth 100000
open Go.RowKit Go.Lib Go.Shelf
attribute [local go_sem ↓] Go.wp_at_zero Go.wp_at_succ
theorem TsC (a:Option Addr) (H g9:Nat) (X:Nat→Nat) (a2:Option Addr) (A e5:Nat) (X2:Nat→Nat) (w:World) (hU:Qj w a H X) (e4:Qj w a2 A X2) (hl:H<9223372036854775808) (k9:A<9223372036854775808) (ht:Gt.pv w) (h5: ¬4<H) (h6:40<A):
    vQ 9 #[.slice a H g9,.slice a2 A e5] w (.bool true):=by
  obtain⟨W,hW⟩: ∃W,(w.alloc (.cells tsF 30)).alloc (.cells tsA 83)=W:=⟨_,rfl⟩
  obtain⟨hb,b5,a0⟩:=ts_W w
  rw[hW] at hb b5 a0
  have HB:=aa hb
  have j1:=aa b5
  have b0:=aa a0
  have i2:=aa ht
  have HU:=aa hU
  have h9:=aa e4
  have HN:=aa (ts_N (ht.below hb))
  have HW:Hid ((w.alloc (.cells #[ab 2,ab 6,ab 2,ab 2,aj 3,aj 4] 30)).alloc (.cells #[ab 2,ab 0,ab 1,ab 1,ab 3,ab 0,ab 5,ab 2,ab 4,ab 0,ab 9,ab 0] 83)=W):=hW
  clear hb b5 a0 ht hU e4 hW
  have h0:0<W.heap.size:=by rw[←HW.out];simp
  obtain⟨i0,hi,b4,b3,b2⟩:=Ex.info_parts Ex.zw
  obtain⟨i1,gi,c1,b9,b8⟩:=Ex.info_parts nI
  go_enter Tryz.func9,Tryz.ntmps9
  go_wp2_with (first
    |(go_at_call 11;rw[HW.out];refine(HN.out).mono ?_;rintro e w1 ⟨ad,rfl,hA⟩;have HA:=aa (TS.init hA (Ex.cK tsC) (some (ao (w.heap.size+1))) 6);have k1:=aa hA.jC;clear hA)
    |(go_at_call 18;refine(HA.out.AK (fun k5 hi=>hi.vB (some (ao (w.heap.size+1))) 6 6 (Ex.cO tsC) (Ex.cR tsC) (b0.out.below (bt k1.out bq)) ts_rt (by decide))).mono ?_;rintro e w2 ⟨rfl,d⟩;have HT:=aa d;clear d))
  go_loopw [8,9,12] (fun lv wv iv wr=> ∃j:Nat,j≤min H 4∧iv=ab (j:Int)∧TJ W wr ad lv wv (j+1)) (fun _ _ iv _=>4-(RowKit.intOf iv).toNat)
  case atStart=>
    refine⟨0,Nat.zero_le _,rfl,_,_,_,_,rfl,HT.out,?_,fun z hz=> ?_⟩
    · have:=JT.load
      rw[show lM (gz 2 6 2 3 4) ⟨6,Ex.cO tsC,Ex.cR tsC⟩={gz 2 6 2 3 4 with pr:=(gz 2 6 2 3 4).pr++[⟨6,Ex.cO tsC,Ex.cR tsC⟩]} from if_pos ⟨ts_rt,by decide⟩] at this
      exact this
    · obtain rfl:z=(Ex.cK tsC,some (ao (w.heap.size+1)),6):=by simpa using hz
      exact⟨fun U hU=>b0.out.below hU,by simp[Ex.cK,tsC],.inl (by simp[Ex.cK,tsC]),(JT.load.r _ (by simp)).2⟩
  case round=>
    obtain⟨j,hj,rfl,Z,T,M,b,hZ,d,G,hF⟩:=hrel
    clear HA HT
    obtain⟨va,vc,rfl⟩:=Cb.aJ d.l
    obtain⟨wa,wc,rfl⟩:=Cb.aJ d.e
    by_cases g5:j<min H 4
    · have l2:(j:Int)<(H:Int):=by omega
      have l1:(j:Int)<4:=by omega
      rcases HU.out with hX|⟨lb,b1,rfl,g3,hX⟩
      ·omega
      have E:=hX j (by omega)
      have b6:=bt HB.out d.jC
      have c0:=kc b6 E.2
      have hv:=E.1
      have HX:=aa E.2
      generalize X j=v at*
      have C:=aa (show(Z.map (·.1)).length≤100 by simp;omega)
      have a5:=aa (show b.length≤20000 by have:=G.l;have:=C.out;omega)
      have c6:Z.length≤100:=by omega
      have HT:=aa d;have HJ:=aa G;have HF:=aa hF;have HZ:=aa hZ
      clear d G hF hX E hZ
      go_wp2_with (first
        |(at_builtin;refine wp_appX i0 rfl _ _ 87 86 rfl Tryz.underlying87 _ 10 96 hi b4 b3 b2 rfl (by decide) (by decide) W.heap.size (.slice va Z.length vc) Z.length _ rfl (Ex.gP HT.out.l bq) _ 1 _ rfl (new_src (Ex.bV 0 v (-1))) (by omega) (bt HT.out.jC bq).size ?_;intro c5 w3 F I;have J:=aa ((HT.out.below bq).addL (z:=(Ex.bV 0 v (-1),none,0)) F I h0);have c3:=kc (bt HB.out J.out.jC) HX.out;clear F I)
        |(go_at_call 20;refine(ts_start J.out HJ.out C.out v hv).mono ?_;rintro e w4 ⟨x,c,l,T',M',rfl,E,d,a9,G⟩;have a1:=aa E;have B:=aa d;have a4:=aa G;clear E d G)
        |(at_builtin;refine wp_appX i1 rfl _ _ 38 80 rfl Tryz.underlying38 _ 6 48 gi c1 b9 b8 rfl (by decide) (by decide) W.heap.size (.slice wa b.length wc) b.length _ rfl B.out.e x l.length _ rfl a1.out.src (by have:=a5.out;omega) B.out.jC.size ?_;intro c4 w5 F I;have a3:=aa (B.out.addE F I h0);clear F I))
      go_roundw
      ·exact⟨j+1,by omega,by go_num,TJ.next a3.out a4.out HF.out rfl HZ.out⟩
      ·simp[RowKit.intOf];omega
    · have f0:=aa (show TJ W wr ad (.slice va Z.length vc) (.slice wa b.length wc) (j+1) from⟨Z,T,M,b,hZ,d,G,hF⟩)
      have l0:j≤4:=by omega
      have h1: ¬(j:Int)<(H:Int):=by omega
      clear hZ d G hF g5 hj
      go_wp2
      go_loopw [8,9,15] (fun lv wv iv wr=> ∃i n:Nat,i≤min A 40∧n≤i+5∧iv=ab (i:Int)∧TJ W wr ad lv wv n) (fun _ _ iv _=>40-(RowKit.intOf iv).toNat)
      case atStart=>exact⟨0,j+1,Nat.zero_le _,by omega,rfl,f0.out⟩
      case round=>
        obtain⟨i,n,l3,k8,rfl,Z,T,M,b,hZ,d,G,hF⟩:=hrel
        clear f0
        obtain⟨va,vc,rfl⟩:=Cb.aJ d.l
        obtain⟨wa,wc,rfl⟩:=Cb.aJ d.e
        have C:=aa (show(Z.map (·.1)).length≤100 by simp;omega)
        have a5:=aa (show b.length≤20000 by have:=G.l;have:=C.out;omega)
        have c6:Z.length≤100:=by omega
        by_cases l4:i<min A 40
        · have l6:(i:Int)<(A:Int):=by omega
          have l5:(i:Int)<40:=by omega
          rcases h9.out with hX|⟨lb,b1,rfl,g3,hX⟩
          ·omega
          have E:=hX i (by omega)
          have b6:=bt HB.out d.jC
          have c0:=kc b6 E.2
          have hv:=E.1
          have HX:=aa E.2
          generalize X2 i=v at*
          obtain⟨r,hr⟩: ∃r,v%3=r:=⟨_,rfl⟩
          have k7:r≤2:=by omega
          have m1:(v:Int)%3=(r:Int):=by omega
          have f8:(v:Int).tmod 3=(r:Int):=by rw[show(3:Int)=((3:Nat):Int) from rfl,←Int.ofNat_tmod,hr]
          have m2:IntKind.i64.wrap (r:Int)=(r:Int):=Qs (by omega)
          have m4:IntKind.i64.wrap ((v:Int).tmod 3)=(r:Int):=by rw[f8,m2]
          have m3:IntKind.u64.wrap (v:Int)=(v:Int):=by simp[IntKind.wrap,IntKind.bits,IntKind.signed];omega
          have HT:=aa d;have HJ:=aa G;have HF:=aa hF;have HZ:=aa hZ
          clear d G hF hX E hZ hr
          by_cases f9:r=2
          · subst f9
            go_wp2_with (first
              |(at_builtin;refine wp_appX i0 rfl _ _ 87 86 rfl Tryz.underlying87 _ 10 96 hi b4 b3 b2 rfl (by decide) (by decide) W.heap.size (.slice va Z.length vc) Z.length _ rfl (Ex.gP HT.out.l bq) _ 1 _ rfl (new_src (Ex.dg 1)) (by omega) (bt HT.out.jC bq).size ?_;intro c5 w3 F I;have J:=aa ((HT.out.below bq).addL (z:=(Ex.dg 1,none,0)) F I h0);have c3:=kc (bt HB.out J.out.jC) HX.out;clear F I)
              |(go_at_call 17;refine(ts_tick J.out HJ.out C.out).mono ?_;rintro e w4 ⟨x,l,T',M',rfl,E,d,a9,G⟩;have a1:=aa E;have B:=aa d;have a4:=aa G;clear E d G)
              |(at_builtin;refine wp_appX i1 rfl _ _ 38 80 rfl Tryz.underlying38 _ 6 48 gi c1 b9 b8 rfl (by decide) (by decide) W.heap.size (.slice wa b.length wc) b.length _ rfl B.out.e x l.length _ rfl a1.out.src (by have:=a5.out;omega) B.out.jC.size ?_;intro c4 w5 F I;have a3:=aa (B.out.addE F I h0);clear F I))
            exact⟨⟨i+1,n+1,by omega,by omega,by go_num,TJ.next a3.out a4.out HF.out rfl HZ.out⟩,by simp[RowKit.intOf];omega⟩
          · have k6: ¬(r:Int)=2:=by omega
            obtain⟨W3,a8⟩: ∃W3,(wr.alloc (.cells #[ab 1,ab (r:Int),aj (v:Int),ab 0,.slice none 0 0,aj 0,aj 0,ab 0,aA 0,ab 0] 86)).drew=W3:=⟨_,rfl⟩
            have a7:aC wr W3:=by rw[←a8];exact bq.drew
            have e8:=aa (HT.out.below a7)
            have j0:Hid (∀(j:Nat) u,(Ex.ec (Ex.dB (r:Int) v) none 0)[j]? =some u→W3.cell? ((ao wr.heap.size:Addr).add j)=some u):=by
              rw[←a8]
              exact Ex.rP wr _ _
            have k3:=kc a7 c0
            have j2:=aa (bt HT.out.jC a7).size
            have i3:=aa e8.out.l
            have h8:=aa a8
            clear a7 a8
            go_wp2
            refine wp_region_held_drew (S:=(fun t=>t.cell? (af lb (b1+i))=some (aA (v:Int)))) (by rfl) ?_ (fun hHeld=> ?_)
            ·exact c0
            refine st ?_
            repeat' first
              |refine dn ?_
              |refine tk ?_
              |refine rd ?_
              |exact oA
              |refine oE ?_
              |refine oC ?_ ?_
              | (refine dU 13 (fun K hK=> ?_)
                 go_simp
                 (try simp only[m4])
                 rw[h8.out]
                 refine hK.out _ _ ?_ (fun hHeld=> ?_)
                 ·exact k3
                 clear hK K
                 try simp only[cV])
              | (refine dU 14 (fun K hK=> ?_)
                 refine cC _ (by rfl) _ _ _ (by rfl) W.heap.size 86 i0 _ 10 96 Tryz.underlying87 hi b4 b3 b2 rfl (by omega) (.slice va Z.length vc) Z.length (Ex.iP Z) (by rfl) i3.out (ao wr.heap.size) 1 1 (Ex.ec (Ex.dB (r:Int) v) none 0) (by rfl) rfl j0.out (Ex.Ax _ _ _) (by unfold maxLen;omega) (by omega) j2.out ?_
                 intro c5 w3 F I e0
                 have J:=aa (e8.out.addL (z:=(Ex.dB (r:Int) v,none,0)) F ⟨I,fun k q=>by
                   rcases e0 with e|e
                   ·exact .inl (e▸q)
                   · rw[e] at q
                     obtain rfl:=Option.some.inj q
                     exact .inr aT⟩ h0)
                 have c3:=kc (bt HB.out J.out.jC) HX.out
                 clear F I e0
                 refine hK.out _ _ ?_ (fun hHeld=> ?_)
                 ·exact c3
                 clear hK K
                 try simp only[cV])
              | (refine dU _ (fun K hK=> ?_)
                 go_simp
                 refine hK.out _ _ ?_ (fun hHeld=> ?_)
                 ·assumption
                 clear hK K
                 try simp only[cV])
            all_goals
              refine⟨?_⟩
              go_wp2
              go_region_held3 (fun t=>t.cell? (af lb (b1+i))=some (aA (v:Int))) (first|exact c3|assumption|go_keep)
                (first
                  |(go_at_call 14;(try rw[m4]);refine(ts_step (J.out.below cj.drew) HJ.out C.out r v (by omega) (by omega)).mono ?_;rintro e w4 ⟨x,c,l,T',M',rfl,E,d,a9,G⟩;have a1:=aa E;have B:=aa d;have a4:=aa G;have l8:=aa (kc (bt HB.out B.out.jC) HX.out);clear E d G))
              go_wp2_with (at_builtin;refine wp_appX i1 rfl _ _ 38 80 rfl Tryz.underlying38 _ 6 48 gi c1 b9 b8 rfl (by decide) (by decide) W.heap.size (.slice wa b.length wc) b.length _ rfl B.out.e x l.length _ rfl a1.out.src (by have:=a5.out;omega) B.out.jC.size ?_;intro c4 w5 F I;have a3:=aa (B.out.addE F I h0);clear F I)
              exact⟨⟨i+1,n+1,by omega,by omega,by go_num,TJ.next a3.out a4.out HF.out rfl HZ.out⟩,by simp[RowKit.intOf];omega⟩
        · have HL:Hid (Ex.gu (Z.map (·.1))∧(Hg 2 6 2 2 3 4 (Z.map (·.1))).ev=b∧wX (Z.map (·.1))≤100):=⟨G.r,G.v,Nat.le_trans G.k C.out⟩
          obtain⟨L,b7⟩: ∃L,Z.map (·.1)=L:=⟨_,rfl⟩
          have e3:Z.length=L.length:=by rw[←b7,List.length_map]
          obtain⟨k4,k2,s,hE⟩:=Ex.ens_of d.l d.jC hF
          simp only[Value.slice.injEq,true_and] at s
          obtain⟨rfl,rfl⟩:=s
          rw[b7] at HL hE C
          have c7:=bt HB.out d.jC
          have e6:=aa c7
          have h2:=aa d.jC
          have f2:Hid (aB 31 #[.slice va L.length vc] wr fun e t=> ∃v,e=aS #[v,ab 0]∧t.ownsRow wr.heap.size 5 1 v (Ex.all L).length (Ex.dG (Ex.all L))∧aC wr t):=(Ex.J6 wr va L vc (by have:=C.out;omega) hE).mono fun e t h=>h.yes fun x E=>(HL.out.1 x E).1
          have f1:=aa d.e
          have c2:=aa (ts_R (B:=wr.heap.size) i2.out HL.out C.out)
          unfold B6 at c2
          rw[e3]
          have Q:=fun (i:Nat) u (hu:tsF[i]? =some u)=>j1.out i u hu
          clear d G hF hE hZ HL C b7 e3 c6 c7
          have h3:(i:Int)<(A:Int):=by omega
          have h4: ¬(i:Int)<40:=by omega
          go_wp2_with (first
            |(go_at_call 31;refine(f2.out).mono ?_;rintro e w6 ⟨bv,rfl,F,a6⟩;have e9:=aa F;have f7:=aa a6;have f4:=aa (f1.out.below a6);have D:=bt h2.out a6;have d0:=kc D (Q 0 _ rfl);have d1:=kc D (Q 1 _ rfl);have d2:=kc D (Q 2 _ rfl);have d3:=kc D (Q 3 _ rfl);have d4:=kc D (Q 4 _ rfl);have d5:=kc D (Q 5 _ rfl);clear F a6 D)
            |(go_at_call 25;refine(c2.out _ _ _ e9.out (bt e6.out f7.out) cj).mono ?_;rintro e w7 ⟨ea,ec,ra,rc,cn,f,rfl,P,D⟩;have e7:=aa P;have k0:=aa D;have f3:=aa (f4.out.below D);clear P D))
          have l7:=a5.out
          obtain⟨W8,N⟩: ∃W8,w7.alloc (.cells (B6 (.slice ea b.length ec) (.slice ra L.length rc) cn f) 60)=W8:=⟨_,rfl⟩
          have r0:W8.cell? (ao w7.heap.size)=some (.slice ea b.length ec):=by
            rw[←N]
            exact bB w7 _ _ 0 _ rfl
          have c8:=e7.out.below (show aC w7 W8 by rw[←N];exact bq)
          have d6:=f3.out.below (show aC w7 W8 by rw[←N];exact bq)
          have h7:=aa (bt e6.out (bt f7.out (bt k0.out (show aC w7 W8 by rw[←N];exact bq))))
          unfold B6 at N
          rw[N]
          obtain⟨_,_,e1,d8⟩:=c8.cells
          obtain⟨_,_,e2,d7⟩:=d6.cells
          simp only[Value.slice.injEq,true_and] at e1 e2
          obtain⟨rfl,rfl⟩:=e1
          obtain⟨rfl,rfl⟩:=e2
          have f6:=aa d8
          have f5:=aa d7
          clear N c8 d6 d8 d7 e7 f3 e9 f4 f2 c2 f1
          go_loopw [22] (fun iv wr=> ∃k:Nat,k≤b.length∧iv=ab (k:Int)∧aC W8 wr) (fun iv _=>b.length-(RowKit.intOf iv).toNat)
          case atStart=>exact⟨0,Nat.zero_le _,rfl,cj⟩
          case round=>
            obtain⟨k,hk,rfl,g7⟩:=hrel
            have o:=aa g7
            by_cases c9:k<b.length
            · have g4:(k:Int)<(b.length:Int):=by omega
              obtain⟨O,rfl,_,_,x⟩:=f6.out k b[k] (List.getElem?_eq_getElem c9)
              obtain⟨R,rfl,_,_,y⟩:=f5.out k b[k] (List.getElem?_eq_getElem c9)
              generalize b[k]=s at*
              have x0:=kc o.out (x 0 _ rfl);have x1:=kc o.out (x 1 _ rfl);have x2:=kc o.out (x 2 _ rfl);have x3:=kc o.out (x 3 _ rfl);have x4:=kc o.out (x 4 _ rfl);have x5:=kc o.out (x 5 _ rfl)
              have y0:=kc o.out (y 0 _ rfl);have y1:=kc o.out (y 1 _ rfl);have y2:=kc o.out (y 2 _ rfl);have y3:=kc o.out (y 3 _ rfl);have y4:=kc o.out (y 4 _ rfl);have y5:=kc o.out (y 5 _ rfl)
              have r1:=kc o.out r0
              have S:=aa (show wr.cell? (ao w7.heap.size)=some (.slice (some (ao O)) b.length ec)∧(wr.cell? (af O (k*6))=some (ab s.k)∧wr.cell? (af O (k*6+1))=some (ab s.p)∧wr.cell? (af O (k*6+2))=some (ab s.x)∧wr.cell? (af O (k*6+3))=some (aM (s.g:Int))∧wr.cell? (af O (k*6+4))=some (ab s.r)∧wr.cell? (af O (k*6+5))=some (ab s.e))∧wr.cell? (af R (k*6))=some (ab s.k)∧wr.cell? (af R (k*6+1))=some (ab s.p)∧wr.cell? (af R (k*6+2))=some (ab s.x)∧wr.cell? (af R (k*6+3))=some (aM (s.g:Int))∧wr.cell? (af R (k*6+4))=some (ab s.r)∧wr.cell? (af R (k*6+5))=some (ab s.e) from⟨r1,⟨x0,x1,x2,x3,x4,x5⟩,y0,y1,y2,y3,y4,y5⟩)
              clear x y f6 f5
              go_wp2
              go_region_held3 (fun t=>t.cell? (ao w7.heap.size)=some (.slice (some (ao O)) b.length ec)∧(t.cell? (af O (k*6))=some (ab s.k)∧t.cell? (af O (k*6+1))=some (ab s.p)∧t.cell? (af O (k*6+2))=some (ab s.x)∧t.cell? (af O (k*6+3))=some (aM (s.g:Int))∧t.cell? (af O (k*6+4))=some (ab s.r)∧t.cell? (af O (k*6+5))=some (ab s.e))∧t.cell? (af R (k*6))=some (ab s.k)∧t.cell? (af R (k*6+1))=some (ab s.p)∧t.cell? (af R (k*6+2))=some (ab s.x)∧t.cell? (af R (k*6+3))=some (aM (s.g:Int))∧t.cell? (af R (k*6+4))=some (ab s.r)∧t.cell? (af R (k*6+5))=some (ab s.e)) (first|exact S.out|go_keep) (fail)
              go_wp2
              go_roundw
              ·exact⟨k+1,by omega,by go_num,by exact bt o.out cj.drew⟩
              ·simp[RowKit.intOf];omega
            · have g4: ¬(k:Int)<(b.length:Int):=by omega
              go_wp2
              go_ret
              exact⟨rfl,bt h7.out o.out⟩
end Go.Proofs.YtnmhcgpnhlhcgaaGreatDoor

/- TopSame: what is done by hand, beside a run of its entries. -/
import Derived.Test.YtnmhcgpnhlhcgaaGreatDoorK0
import Derived.Test.YtnmhcgpnhlhcgaaGreatDoorKn
import Derived.Test.YtnmhcgpnhlhcgaaGreatDoorKs
import Derived.Test.YtnmhcgpnhlhcgaaGreatDoorKx
import Derived.Test.YtnmhcgpnhlhcgaaGreatDoorKl
import Derived.Test.YtnmhcgpnhlhcgaaGreatDoorKq
import Derived.Test.YtnmhcgpnhlhcgaaGreatDoorKt
import Derived.Test.YtnmhcgpnhlhcgaaGreatDoorKd
import Derived.Test.YtnmhcgpnhlhcgaaGreatDoorKc
import Derived.Test.YtnmhcgpnhlhcgaaGreatDoorKa
import Derived.Deep.AppendLies
import Derived.Deep.Upon
namespace Go.Proofs.YtnmhcgpnhlhcgaaGreatDoor.Ex
open Go.RowKit Go.Lib
set_option linter.unusedVariables false
def Fit (w:World) (z:En×Option Addr×Nat):Prop:=(∀W,aC w W→qe W z.2.1 z.1.code)∧z.1.code.length<9223372036854775808∧(z.1.code.length≤64∨(z.1.code.length≤z.2.2∧z.2.2<9223372036854775808))∧zf z.1
theorem ens_of {h w:World} {d:Nat} {T:TypeId} {v:Value} {Z:Zs} (r:w.ownsRow d T 10 v Z.length (iP Z)) (y:aC h w) (t: ∀z∈Z,Fit h z): ∃a c,v= .slice a Z.length c∧M8 w a (Z.map (·.1)):=by
  rcases r.2 with ⟨rfl,E⟩|⟨g,c,A,rfl,_,f,B,C,D,p⟩
  · have:Z=[]:=(by grind)
    subst this
    exact⟨none,0,rfl,.inl rfl⟩
  · refine⟨_,c,rfl,.inr ⟨g,0,rfl,(Array.getElem?_eq_some_iff.1 f).1,fun j x e=> ?_⟩⟩
    rw[List.getElem?_map] at e
    cases hz:Z[j]? with
    |none=>grind
    |some z=>
      rw[hz] at e
      simp at e
      subst e
      have b: ∀i u,(ec z.1 z.2.1 z.2.2)[i]? =some u→w.cell? (af g (0+j*10+i))=some u:=by
        intro i u k
        have q:=nh Z j z hz i u k
        have hi:=(List.getElem?_eq_some_iff.1 k).1
        rw[sa] at hi
        have s:=(List.getElem?_eq_some_iff.1 hz).1
        rw[←p,List.getElem?_take_of_lt (by omega)] at q
        unfold World.cell?
        grind
      obtain⟨o,n,m,l⟩:=t z (List.mem_of_getElem? hz)
      exact⟨z.2.1,z.2.2,b 0 _ rfl,b 1 _ rfl,b 2 _ rfl,b 3 _ rfl,b 4 _ rfl,b 5 _ rfl,b 6 _ rfl,b 7 _ rfl,b 8 _ rfl,b 9 _ rfl,o w y,n,m,l⟩
end Go.Proofs.YtnmhcgpnhlhcgaaGreatDoor.Ex
namespace Go.Proofs.YtnmhcgpnhlhcgaaGreatDoor
set_option linter.unusedVariables false
set_option linter.unusedSimpArgs false
set_option maxRecDepth 100000
open Go.RowKit Go.Lib Go.Shelf
set_option linter.unusedVariables false
set_option linter.unusedSimpArgs false
/-- What is handed to append: nothing, or so many pieces that lie somewhere. -/
def SrX (w:World) (v:Value) (m d:Nat) (b:List Value):Prop:= ∃a c,v= .slice a m c∧b.length=m*d∧(∀u∈b,u.oneCell'=true)∧(0<m→ ∃e,a=some e∧ ∀(j:Nat) (u:Value),b[j]? =some u→w.cell? (e.add j)=some u)
/-- The row's block behind an append is its own or a new one. -/
def Grw (w a:World) (v b:Value):Prop:=w.grownBy a v.ownBlock∧ ∀k,b.ownBlock=some k→v.ownBlock=some k∨w.heap.size≤k
theorem wp_appX {P:Program} {w:World} {A:Array Oper} {l:List Oper} {o:Oper} {a:Act} {Q:Exit→Act→World→Prop} (i:TypeInfo) (E:o.guard=none) (s x:Operand) (t e:TypeId)
    (Y:o.op= .call {callee:= .builtin .append,args:= #[s,x],argTypes:= #[t,t]}) (F:P.underlying t=some (.slice e)) (z:Value) (b bytes:Nat) (hi:P.info? e=some i) (hz:i.zero=some z) (h1:i.size=b) (h2:i.bytes=bytes) (I:z.cells.size=b) (J:0<b) (S:bytes≤100)
    (j:Nat) (v:Value) (n:Nat) (G:List Value) (X:a.eval s=v) (f:w.ownsRow j e b v n G) (u:Value) (m:Nat) (d:List Value) (W:a.eval x=u) (B:SrX w u m b d) (hl:n+m≤100000) (p:j≤w.heap.size)
    (h: ∀H r,r.ownsRow j e b H (n+m) (G++d)→Grw w r v H→wpList P A Q l (a.put o.dst H) r):wpList P A Q (o::l) a w:=by
  obtain⟨sa,c,rfl,M,D,hc⟩:=B
  by_cases hm:m=0
  · subst hm
    have N:d=[]:=List.eq_nil_of_length_eq_zero (by omega)
    subst N
    obtain⟨Z,vc,rfl⟩:=Cb.aJ f
    have O:n≤vc:=by
      rcases f.2 with ⟨q,V⟩|⟨g,T,a0,q,_,_,y,_⟩
      ·omega
      · simp only[Value.slice.injEq,true_and] at q
        omega
    have L:Go.Src P i.size t (.slice sa 0 c) 0 [] w:=by
      cases sa with
      |none=>exact⟨.inl ⟨e,F⟩,fun r=>rfl,run_firstCells_none w i.size 0 0 0,run_firstCells_none w.drew i.size 0 0 0,by simp,by simp⟩
      |some U=>exact Src.ofSlice w F U 0 c [] (by simp) (by simp) (by simp)
    have C:=run_append_nothing (P:=P) w t t o.type e i F hi Z n vc O _ L
    refine wpList_plain E fun K hK=> ?_
    unfold Oper.wp
    simp[execOp,Y,resolve,invoke,builtin,X,W,C,Result.andThen]
    exact hK _ _ (h _ w (by simpa using f) ⟨World.grownBy.refl _ _,fun k q=> .inl q⟩)
  · obtain⟨U,rfl,R⟩:=hc (by omega)
    refine wpList_append_lies w E s x t Y j e i z b bytes F hi hz h1 h2 I J v n G X f U m c d W M R D (by omega) (by unfold maxLen;omega) ?_ p w.heap.size rfl fun g T r q1 V y q4=>h _ r q1 ⟨V,fun k q=> ?_⟩
    · have:(n+m)*bytes≤100000*100:=Nat.mul_le_mul hl S
      omega
    · simp[Value.ownBlock] at q
      subst q
      rcases y with y|y
      ·exact .inl y
      ·exact .inr (by omega)
theorem qA {V:World} {p o:Nat} {d c:TypeId} {h g j i:Nat} {b a:Value} {f e:List Value} (n:V.ownsRow p d h b j f) (m:V.ownsRow o c g a i e) (r:d≠c) {k:Nat} (l:b.ownBlock=some k):a.ownBlock≠some k:=fun q=>by
  obtain⟨_,_,v,t⟩:=au n l
  obtain⟨_,_,u,s⟩:=au m q
  grind
/-- A machine, the entries that were done, and what it has told. -/
structure TS (w V:World) (ad:Ad) (T:Nat) (M:Mc) (lv wv:Value) (Z:Ex.Zs) (evs:List Ev):Prop where
  a:nQ w V ad 2 6 2 T M (fun k=>lv.ownBlock=some k∨wv.ownBlock=some k)
  l:V.ownsRow w.heap.size 86 10 lv Z.length (Ex.iP Z)
  e:fK V w.heap.size wv evs
section
variable {w V V':World} {b:Ad} {T:Nat} {M:Mc} {c wv d f:Value} {Z g:Ex.Zs} {evs evs':List Ev}
theorem TS.jC (h:TS w V b T M c wv Z evs):aC w V:=h.a.jC
theorem TS.below (h:TS w V b T M c wv Z evs) (i:aC V V'):TS w V' b T M c wv Z evs:=
  ⟨h.a.below i (fun k q=> .inl q),Ex.gP h.l i,h.e.below i⟩
/-- An entry more. -/
theorem TS.growL (h:TS w V b T M c wv Z evs) (i:Grw V V' c d) (j:V'.ownsRow w.heap.size 86 10 d g.length (Ex.iP g)) (o:0<w.heap.size):TS w V' b T M d wv g evs:=by
  have n:Fr (fun k=>c.ownBlock=some k) V V':=⟨i.1.os,i.1.tape,i.1.output,i.1.size,fun k m q=>i.1.block k m (fun e=>q e.symm)⟩
  have hw: ∀k,wv.ownBlock=some k→V'.heap[k]? =V.heap[k]? :=fun k q=>i.1.block k (h.e.EJ q).2 (fun e=>qA h.l h.e (by decide) e.symm q)
  refine⟨h.a.fr n (fun k q=> .inl q) (fun q=> ?_) (fun k q=>(au h.l q).1) (fun k q=> ?_),j,aQ h.e hw⟩
  · have:=(au h.l q).1
    omega
  · rcases q with q|q
    · refine⟨(au j q).2.1,?_⟩
      rcases i.2 k q with r|r
      ·exact .inl (.inl r)
      ·exact .inr r
    ·exact⟨Nat.lt_of_lt_of_le (h.e.EJ q).2 i.1.size,.inl (.inr q)⟩
/-- What was told is laid behind. -/
theorem TS.growE (h:TS w V b T M c wv Z evs) (i:Grw V V' wv f) (j:fK V' w.heap.size f evs') (o:0<w.heap.size):TS w V' b T M c f Z evs':=by
  have n:Fr (fun k=>wv.ownBlock=some k) V V':=⟨i.1.os,i.1.tape,i.1.output,i.1.size,fun k m q=>i.1.block k m (fun e=>q e.symm)⟩
  have hw: ∀k,c.ownBlock=some k→V'.heap[k]? =V.heap[k]? :=fun k q=>i.1.block k (au h.l q).2.1 (fun e=>qA h.l h.e (by decide) q e.symm)
  refine⟨h.a.fr n (fun k q=> .inr q) (fun q=> ?_) (fun k q=>(h.e.EJ q).1) (fun k q=> ?_),aQ h.l hw,j⟩
  · have:=(h.e.EJ q).1
    omega
  · rcases q with q|q
    ·exact⟨Nat.lt_of_lt_of_le (au h.l q).2.1 i.1.size,.inl (.inl q)⟩
    · refine⟨(j.EJ q).2,?_⟩
      rcases i.2 k q with r|r
      ·exact .inl (.inr r)
      ·exact .inr r
/-- A call of the machine that tells events. -/
theorem TS.call {T':Nat} {M':Mc} {l:List Ev} (h:TS w V b T M c wv Z evs) {i:Nat} {args:Array Value} {R:Ending→World→Value→Prop}
    (r: ∀m,ax V m b 2 6 2 T M→aB i args V fun e j=> ∃v,R e j v∧fK j V.heap.size v l∧dF V j m b 2 6 2 T' M' v):
    aB i args V fun e j=> ∃v,R e j v∧fK j V.heap.size v l∧TS w j b T' M' c wv Z evs:=by
  refine(h.a.call r).mono ?_
  rintro e j ⟨v,p,o,s,n⟩
  exact⟨v,p,o,s.below cj (fun k q=> .inl (.inl q)),aQ h.l (fun k q=>n k (.inl q)),aQ h.e (fun k q=>n k (.inr q))⟩
/-- What a call has told lies to be appended. -/
theorem fK.src {V:World} {i:Nat} {v:Value} {l:List Ev} (h:fK V i v l):SrX V v l.length 6 (bF l):=by
  rcases h.2 with ⟨rfl,e⟩|⟨a,m,o,rfl,y,x,s,t,r,p⟩
  ·exact⟨none,0,by rw[e],h.1,fun u k=>vM l u k,fun q=>by omega⟩
  · refine⟨_,m,rfl,h.1,fun u k=>vM l u k,fun _=>⟨_,rfl,fun j u k=> ?_⟩⟩
    have n:=(List.getElem?_eq_some_iff.1 k).1
    have e:(ao a:Addr).add j=af a j:=by unfold Addr.add;grind
    rw[e,World.ownsRow.cellAt h j (by rw[←h.1];exact n)]
    exact k
end
end Go.Proofs.YtnmhcgpnhlhcgaaGreatDoor
namespace Go.Proofs.YtnmhcgpnhlhcgaaGreatDoor
set_option linter.unusedVariables false
set_option linter.unusedSimpArgs false
set_option maxRecDepth 100000
open Go.RowKit Go.Lib Go.Shelf
set_option linter.unusedVariables false
set_option linter.unusedSimpArgs false
def tsC:List (Int×Int):=[(2,0),(1,1),(3,0),(5,2),(4,0),(9,0)]
theorem ts_rt:Ex.uK tsC:=⟨0,.inr (.inr (.inr ⟨by decide,by decide,fun i hi=>by
  have a:i<6:=hi
  match i,a with
  |0,_|1,_|2,_|3,_|4,_|5,_=>decide,.inr rfl,rfl,rfl⟩))⟩
/-- What is kept: the machine is what the run of the entries comes to. -/
structure JT (L:List Ex.En) (T:Nat) (M:Mc) (evs:List Ev):Prop where
  m:(Hg 2 6 2 2 3 4 L).M=M
  v:(Hg 2 6 2 2 3 4 L).ev=evs
  t:T≤1000*L.length
  i:Iv 2 6 L.length [] M
  l:evs.length≤150*L.length
  r:Ex.gu L
  k:wX L≤L.length
section
variable {L:List Ex.En} {T:Nat} {M:Mc} {b:List Ev} {w V:World} {c:Ad} {e wv:Value} {Z:Ex.Zs}
theorem JT.load:JT [Ex.cK tsC] 0 (lM (gz 2 6 2 3 4) ⟨6,Ex.cO tsC,Ex.cR tsC⟩) [] where
  m:=rfl
  v:=rfl
  t:=Nat.zero_le _
  i:=((Iv.new 2 6 2 3 4 (by decide) (by decide)).zY _).more (Nat.le_succ 0)
  l:=Nat.zero_le _
  r:=fun x a=>by
    obtain rfl:x=Ex.cK tsC:=by simpa using a
    exact⟨.inr (.inr (.inl ⟨rfl,ts_rt⟩)),⟨by decide,by decide,by decide,by decide⟩⟩
  k:=Nat.zero_le _
theorem rights_snoc {x:Ex.En} (h:Ex.gu L) (f:Ex.bj x) (d:Ex.zf x):Ex.gu (L++[x]):=fun y a=>by
  rcases List.mem_append.1 a with q|q
  ·exact h y q
  · obtain rfl:y=x:=by simpa using q
    exact⟨f,d⟩
theorem ts_start (h:TS w V c T M e wv Z b) (f:JT L T M b) (A:L.length≤100) (v:Nat) (j:v<256):
    aB 20 #[ak c.m,ab 0,aA (v:Int),ab (-1)] V fun a g=> ∃x d l p q,a=aS #[x,ab d]∧fK g V.heap.size x l∧TS w g c p q e wv Z b∧l.length≤150∧JT (L++[Ex.bV 0 v (-1)]) p q (b++l):=by
  have z:=f.t
  have o:=OU (M:=M) (n:=6) (pg:=0) (sv:= -1)
  refine(h.call (R:=fun a _ x=>a=aS #[x,ab (gC M 6 0 (-1))]) (fun s hi=>hi.sJ f.i (by omega) 0 v j (-1) (by omega))).mono ?_
  rintro a g ⟨x,rfl,u,y⟩
  refine⟨x,_,_,_,_,rfl,u,y,by have:=o.1;omega,?_,?_,?_,?_,?_,rights_snoc f.r (.inr (.inr (.inr (.inr ⟨rfl,by simp[Ex.bV],by simp[Ex.bV],by simp[Ex.bV],by simp[Ex.bV]⟩)))) ⟨by simp[Ex.bV],by simp[Ex.bV],by simp[Ex.bV],j⟩,?_⟩
  ·rw[GA,←f.m];rfl
  ·rw[GA,←f.m,←f.v];rfl
  ·simp;omega
  ·rw[List.length_append];exact f.i.xu (by decide) 0 v (-1)
  ·have:=o.1;have:=f.l;simp;omega
  ·have:=f.k;rw[qL,List.length_append];exact Nat.le_succ_of_le this
theorem ts_tick (h:TS w V c T M e wv Z b) (f:JT L T M b) (A:L.length≤100):
    aB 17 #[ak c.m] V fun d g=> ∃x l o p,d= .returned x∧fK g V.heap.size x l∧TS w g c o p e wv Z b∧l.length≤150∧JT (L++[Ex.dg 1]) o p (b++l):=by
  have z:=f.t
  obtain⟨j,hi⟩:=h.a.one
  have n:=hi.NP
  have y:=f.i.tick (q:=2) hi.wh.facts.2.1
  refine(h.call (R:=fun d _ x=>d= .returned x) (fun j hi=>hi.tick (by decide) f.i.Qr (by omega))).mono ?_
  rintro d g ⟨x,rfl,s,u⟩
  refine⟨x,_,_,_,rfl,s,u,by have:=n.1;omega,?_,?_,?_,?_,?_,rights_snoc f.r (.inr (.inl ⟨rfl,by decide,by decide⟩)) ⟨by decide,by decide,by decide,by decide⟩,?_⟩
  ·rw[GA,←f.m];rfl
  ·rw[GA,←f.m,←f.v];rfl
  ·simp;omega
  ·rw[List.length_append];exact y.more (Nat.le_succ _)
  ·have:=n.1;have:=f.l;simp;omega
  ·have:=f.k;rw[qL,List.length_append];exact Nat.succ_le_succ this
theorem ts_step (h:TS w V c T M e wv Z b) (j:JT L T M b) (G:L.length≤100) (p d:Nat) (F:p≤255) (B:d<18446744073709551616):
    aB 14 #[ak c.m,ab (p:Int),aj (d:Int)] V fun f n=> ∃x g l u y,f=aS #[x,ab g]∧fK n V.heap.size x l∧TS w n c u y e wv Z b∧l.length≤150∧JT (L++[Ex.dB (p:Int) d]) u y (b++l):=by
  have E:=j.t
  have A:IW 6≤600:=by
    unfold IW zn
    omega
  obtain⟨o,hi⟩:=h.a.one
  have s:=NV (q:=2) (p:=(p:Int)) (d:=(d:Int)) j.i
  have D:=j.i.step (q:=2) (by omega) hi (p:Int) (d:Int) ⟨by omega,by omega⟩ (by omega)
  refine(h.call (R:=fun f _ x=>f=aS #[x,ab (sC 2 (p:Int))]) (fun o hi=>hi.vK j.i (by omega) (p:Int) (d:Int) ⟨by omega,by omega⟩ (by omega))).mono ?_
  rintro f n ⟨x,rfl,z,C⟩
  refine⟨x,_,_,_,_,rfl,z,C,by have:=s.1;omega,?_,?_,?_,?_,?_,rights_snoc j.r (.inl ⟨rfl,Int.natCast_nonneg _,by show(p:Int)≤255;omega⟩) ⟨B,by simp[Ex.dB],by simp[Ex.dB],by simp[Ex.dB]⟩,?_⟩
  ·rw[GA,←j.m];rfl
  ·rw[GA,←j.m,←j.v];rfl
  ·simp;omega
  ·rw[List.length_append];exact D
  ·have:=s.1;have:=j.l;simp;omega
  ·have:=j.k;rw[qL,List.length_append];exact Nat.le_succ_of_le this
end
theorem run_ts {L:List Ex.En} {d:List Nat} {w:World} {c:Value} (i:L.length≤1000) (n:wX L≤1000) (l:Gt.pv w) (o: ∀V,aC w V→aB 32 #[c] V (Ex.nR V 86 d)) (g:Ex.Good d L):
    aB 25 #[.agg #[ab 2,ab 6,ab 2,ab 2,aj 3,aj 4],c] w fun e w'=> ∃a b u f,e=aS #[.agg (B6 a b u f),ab 0]∧fK w' w.heap.size a (Hg 2 6 2 2 3 4 L).ev∧KG w' w.heap.size b (Hg 2 6 2 2 3 4 L).er∧aC w w':=by
  refine(L5 2 6 2 2 3 4 (by decide) (by decide) (by decide) (by decide) (by decide) (by decide) w l c L i (fun V q=>(o V q).mono fun e w' h=>h.tu g) _ ⟨rfl,Nat.zero_le _,(Iv.new 2 6 2 3 4 (by decide) (by decide)),aT,by decide,aT,rfl⟩ (CR (m:=2) (qu:=3) (ag:=4) (by decide) (by decide) L i n g.1)).mono ?_
  rintro e w' ⟨a,b,f,T,M,t,k,x,v,j,rfl,_,s,r,p⟩
  rw[List.take_length] at j
  rw[j.e]
  exact⟨_,_,_,_,rfl,s,r,p⟩
end Go.Proofs.YtnmhcgpnhlhcgaaGreatDoor

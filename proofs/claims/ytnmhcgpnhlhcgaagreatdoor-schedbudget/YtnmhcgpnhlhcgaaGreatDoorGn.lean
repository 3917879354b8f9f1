/- YtnmhcgpnhlhcgaaGreatDoorGn: of the texts Xm1 Bh1 Bi3 Bn1 Bn2 Bn3 Bn4 what is wanted. -/
import Derived.Test.YtnmhcgpnhlhcgaaGreatDoorG0
import Derived.Test.YtnmhcgpnhlhcgaaGreatDoorGs
import Derived.Deep.Slices
import Derived.ChangeOld
import Derived.OpenShut
import Derived.Test.YtnmhcgpnhlhcgaaGreatDoorGt
import Derived.Test.YtnmhcgpnhlhcgaaGreatDoorGq
set_option maxHeartbeats 16000000
set_option maxRecDepth 100000
set_option linter.unusedVariables false
set_option linter.unusedSimpArgs false
namespace Go.Proofs.YtnmhcgpnhlhcgaaGreatDoor
open Go.RowKit Go.Lib Go.Shelf
def Kl (a b:Int) (m:Nat) (l:List Ev):Prop:=l.length≤m∧ ∀e∈l,a≤e.k∧e.k≤b
section
variable {a b:Int} {m m':Nat} {l l':List Ev} {P n q B:Nat} {D:List Nat} {M:Mc}
theorem Kl.nil:Kl a b m []:=⟨Nat.zero_le _,fun e h=>by cases h⟩
theorem Kl.app (h:Kl a b m l) (h':Kl a b m' l'):Kl a b (m+m') (l++l'):=by
 unfold Kl at*
 grind
theorem Kl.one {e:Ev} (h:a≤e.k∧e.k≤b:=by
  dsimp only
  decide):Kl a b 1 [e]:=by
 unfold Kl
 grind
theorem wkL_kl: ∀j,Kl 11 13 j (wkL M j)
 |0=> .nil
 |j+1=>by
  show Kl 11 13 (j+1) (wkL M j++wkE (wkM M j) j)
  refine(wkL_kl j).app ?_
  unfold wkE
  split
  ·exact .nil
  split
  ·exact .one
  ·exact .nil
theorem ready_pr (M:Mc) (x:Nat):(ready2 n M x).pr=M.pr:=by
 unfold ready2
 split<;>rfl
theorem grM_pr (pr:Nat) (s:Mc×List Ev) (un lk:Int):(grM P n q pr s un lk).1.pr=s.1.pr:=by
 unfold grM
 split
 ·rfl
 ·exact ready_pr _ _
theorem relL_pr (pr x:Nat): ∀(ls:List Int) (s:Mc×List Ev),(ls.foldl (rel1 P n q pr x) s).1.pr=s.1.pr
 |[],s=>rfl
 |y::ls,s=>(relL_pr pr x ls _).trans (grM_pr pr _ _ _)
theorem doD_pr (pr x:Nat) (M:Mc) (l:List Ev) (op ar:Int):(doD P n q pr x M l op ar).1.pr=M.pr:=by
 unfold doD lockD unlD spwD extD
 repeat' split
 all_goals first
  |rfl
  |exact ready_pr _ _
  |exact grM_pr _ _ _ _
  |exact relL_pr _ _ _ _
theorem sM_pr (M:Mc) (p d:Int):(sM P n q M p d).pr=M.pr:=by
 have g:(gvM P n q p.toNat M d).pr=M.pr:=by
  unfold gvM
  split
  ·exact ready_pr _ _
  ·rfl
 unfold sM
 split
 ·show(actD P n q p.toNat M d).1.pr=_
  unfold actD tkD gonD
  repeat' split
  all_goals first
   |exact g
   |rfl
   |exact doD_pr _ _ _ _ _ _
 ·rfl
theorem gM_pr (M:Mc) (pg:Int) (lv:Nat) (sv:Int):(gM P n q M pg lv sv).pr=M.pr:=by
 unfold gM
 repeat' split
 all_goals first
  |rfl
  |exact ready_pr _ _
theorem wkM_pr (M:Mc): ∀j,(wkM M j).pr=M.pr
 |0=>rfl
 |j+1=>by
  show(wk1 (wkM M j) j).pr=_
  unfold wk1
  split<;>exact wkM_pr M j
theorem wok_pr: ∀(ls:List Nat) (s:Mc×List Ev),(ls.foldl (wok1 P n q) s).1.pr=s.1.pr
 |[],s=>rfl
 |y::ls,s=>(wok_pr ls _).trans (ready_pr _ _)
theorem tickM_pr (M:Mc):(tickM P n q M).pr=M.pr:=(wok_pr _ _).trans (wkM_pr (tickA M) P)
end
end Go.Proofs.YtnmhcgpnhlhcgaaGreatDoor
namespace Go.Proofs.YtnmhcgpnhlhcgaaGreatDoor
open Go.RowKit Go.Lib Go.Deep Go.ChangeShapes Go.WideShapes
structure Dx where
 k:Int
 p:Int
 d:Nat
 ca:Option Addr
 len:Nat
 cc:Nat
 O:Nat→Int
 R:Nat→Int
 b:Nat
 e:Nat
 g:Int
 l:Nat
 s:Int
structure DxAt (w:World) (lb o:Nat) (x:Dx):Prop where
 c0:w.cell? (vAt lb o)=some (vI6 x.k)
 c1:w.cell? (vAt lb (o+1))=some (vI6 x.p)
 c2:w.cell? (vAt lb (o+2))=some (vU6 (x.d:Int))
 c3:w.cell? (vAt lb (o+3))=some (.slice x.ca x.len x.cc)
 c4:w.cell? (vAt lb (o+4))=some (vU6 (x.b:Int))
 c5:w.cell? (vAt lb (o+5))=some (vU6 (x.e:Int))
 c6:w.cell? (vAt lb (o+6))=some (vI6 x.g)
 c7:w.cell? (vAt lb (o+7))=some (vU8 (x.l:Int))
 c8:w.cell? (vAt lb (o+8))=some (vI6 x.s)
 d:x.d<18446744073709551616
 l:x.l<256
 n:x.len<9223372036854775808
 cp:x.len≤x.cc∧x.cc<9223372036854775808
 pr:Ex.Prg w x.ca x.len x.O x.R
def Dxs (w:World) (a:Option Addr) (len:Nat) (X:Nat→Dx):Prop:=len=0∨ ∃lb off,a=some (vAt lb off)∧lb<w.heap.size∧ ∀j,j<len→DxAt w lb (off+j*9) (X j)
theorem b64' {z:Int} (h:(Lit.int .u64 z).wf=true): ∃n:Nat,z=n∧n<18446744073709551616:=by
 simp[Lit.wf,IntKind.min,IntKind.max,IntKind.bits,IntKind.signed] at h
 exact⟨z.toNat,by omega,by omega⟩
theorem b8' {z:Int} (h:(Lit.int .u8 z).wf=true): ∃n:Nat,z=n∧n<256:=by
 simp[Lit.wf,IntKind.min,IntKind.max,IntKind.bits,IntKind.signed] at h
 exact⟨z.toNat,by omega,by omega⟩
section
variable {H:Type} {enc:TypeId×Value→H} {w:World} {base:Nat} {spare:Nat→Bool} {held:Bool}
theorem cellsDx:Tryz.prog.cellsOf 37=9:=by kernel_rfl
theorem cellsSc:Tryz.prog.cellsOf 24=7:=by kernel_rfl
theorem cellsIx:Tryz.prog.cellsOf 3=1:=by kernel_rfl
theorem cellsUx:Tryz.prog.cellsOf 25=1:=by kernel_rfl
theorem cellsU8x:Tryz.prog.cellsOf 5=1:=by kernel_rfl
theorem cellsCx:Tryz.prog.cellsOf 35=1:=by kernel_rfl
theorem cellsLx:Tryz.prog.cellsOf 22=1:=by kernel_rfl
theorem dx_cells {fuel:Nat} {c0 c1 c2 c3 c4 c5 c6 c7 c8:Value} {x:DataW H×List MemPlace} (h:DataW.trod enc Tryz.prog w base spare held fuel 37 [c0,c1,c2,c3,c4,c5,c6,c7,c8]=some x):
  ∃y:Dx,c0=vI6 y.k∧c1=vI6 y.p∧c2=vU6 (y.d:Int)∧c3= .slice y.ca y.len y.cc∧c4=vU6 (y.b:Int)∧c5=vU6 (y.e:Int)∧c6=vI6 y.g∧c7=vU8 (y.l:Int)∧c8=vI6 y.s∧y.d<18446744073709551616∧y.l<256∧y.len<9223372036854775808∧(y.len≤y.cc∧y.cc<9223372036854775808)∧Ex.Prg w y.ca y.len y.O y.R:=by
 obtain⟨xs,n,_,_,_,hl,hf⟩:=DataW.trod_struct Tryz.underlying37 h
 match xs,hl with
 |[y0,y1,y2,y3,y4,y5,y6,y7,y8],_=>
  obtain⟨z0,e0,_,w0⟩:=DataW.trod_int Tryz.underlying3 (by simpa [cellsIx] using hf 0 _ rfl)
  obtain⟨z1,e1,_,w1⟩:=DataW.trod_int Tryz.underlying3 (by simpa [cellsIx] using hf 1 _ rfl)
  obtain⟨z2,e2,_,w2⟩:=DataW.trod_int Tryz.underlying25 (by simpa [cellsUx] using hf 2 _ rfl)
  obtain⟨z4,e4,_,w4⟩:=DataW.trod_int Tryz.underlying25 (by simpa [cellsUx] using hf 4 _ rfl)
  obtain⟨z5,e5,_,w5⟩:=DataW.trod_int Tryz.underlying25 (by simpa [cellsUx] using hf 5 _ rfl)
  obtain⟨z6,e6,_,w6⟩:=DataW.trod_int Tryz.underlying3 (by simpa [cellsIx] using hf 6 _ rfl)
  obtain⟨z7,e7,_,w7⟩:=DataW.trod_int Tryz.underlying5 (by simpa [cellsU8x] using hf 7 _ rfl)
  obtain⟨z8,e8,_,w8⟩:=DataW.trod_int Tryz.underlying3 (by simpa [cellsIx] using hf 8 _ rfl)
  have h3:DataW.trod enc Tryz.prog w base spare held n 35 [c3]=some y3:=by simpa [cellsCx] using hf 3 _ rfl
  simp at e0 e1 e2 e4 e5 e6 e7 e8
  obtain⟨n2,rfl,q2⟩:=b64' w2
  obtain⟨n4,rfl,q4⟩:=b64' w4
  obtain⟨n5,rfl,q5⟩:=b64' w5
  obtain⟨n7,rfl,q7⟩:=b8' w7
  obtain⟨ca,len,cc,rfl⟩: ∃ca len cc,c3= .slice ca len cc:=by
   rcases open_slice Tryz.underlying35 h3 with ⟨hcs,_⟩|⟨a',len',cap',m,n',D,Pl,hcs,_⟩
   ·simp at hcs
    exact⟨_,_,_,hcs⟩
   ·simp at hcs
    exact⟨_,_,_,hcs⟩
  obtain⟨l1,l2,l3,O,R,hp⟩:=Ex.open_prg (a:=ca) (len:=len) (cap:=cc) (by simpa [Value.cells] using h3)
  exact⟨⟨z0,z1,n2,ca,len,cc,O,R,n4,n5,z6,n7,z8⟩,e0,e1,e2,rfl,e4,e5,e6,e7,e8,q2,q7,l1,⟨l2,l3⟩,hp⟩
theorem open_dxs {fuel:Nat} {a:Option Addr} {len cap:Nat} {x:DataW H×List MemPlace}
  (h:DataW.trod enc Tryz.prog w base spare held fuel 22 (Value.slice a len cap).cells.toList=some x):len<9223372036854775808∧len≤cap∧ ∃X:Nat→Dx,Dxs w a len X:=by
 rcases open_slice Tryz.underlying22 h with ⟨hcs,_⟩|⟨a',len',cap',m,n,D,Pl,hcs,hbb,hl,hm,hmm,hx,hel⟩
 ·simp[Value.cells] at hcs
  obtain⟨rfl,rfl,rfl⟩:=hcs
  exact⟨by omega,by omega,fun _=>⟨0,0,0,none,0,0,fun _=>0,fun _=>0,0,0,0,0,0⟩,.inl rfl⟩
 ·simp[Value.cells] at hcs
  obtain⟨rfl,rfl,rfl⟩:=hcs
  have hlm:len≤m:=by rw[hmm];split<;>omega
  refine⟨by unfold maxLen at hm;omega,hl,?_⟩
  have hone: ∀i,i<len→ ∃y:Dx,(w.cell? (a'.add (i*9))=some (vI6 y.k)∧w.cell? ((a'.add (i*9)).add 1)=some (vI6 y.p)∧w.cell? ((a'.add (i*9)).add 2)=some (vU6 (y.d:Int))∧w.cell? ((a'.add (i*9)).add 3)=some (.slice y.ca y.len y.cc)∧w.cell? ((a'.add (i*9)).add 4)=some (vU6 (y.b:Int))∧w.cell? ((a'.add (i*9)).add 5)=some (vU6 (y.e:Int))∧w.cell? ((a'.add (i*9)).add 6)=some (vI6 y.g)∧w.cell? ((a'.add (i*9)).add 7)=some (vU8 (y.l:Int))∧w.cell? ((a'.add (i*9)).add 8)=some (vI6 y.s))∧y.d<18446744073709551616∧y.l<256∧y.len<9223372036854775808∧(y.len≤y.cc∧y.cc<9223372036854775808)∧Ex.Prg w y.ca y.len y.O y.R:=by
   intro i hi'
   obtain⟨cs',h1,h2⟩:=hel i (by omega)
   rw[cellsDx] at h1
   obtain⟨_,hlen,hc⟩:=World.cells?_some h1
   match cs',hlen with
   |[c0,c1,c2,c3,c4,c5,c6,c7,c8],_=>
    obtain⟨y,rfl,rfl,rfl,rfl,rfl,rfl,rfl,rfl,rfl,q⟩:=dx_cells h2
    have a0:=hc 0 (by omega)
    have az: ∀x:Addr,x.add 0=x:=fun x=>by unfold Addr.add;split<;>simp_all
    rw[az] at a0
    exact⟨y,⟨a0,hc 1 (by omega),hc 2 (by omega),hc 3 (by omega),hc 4 (by omega),hc 5 (by omega),hc 6 (by omega),hc 7 (by omega),hc 8 (by omega)⟩,q⟩
  obtain⟨f,hf⟩: ∃f:Nat→Dx,∀i,i<len→(w.cell? (a'.add (i*9))=some (vI6 (f i).k)∧w.cell? ((a'.add (i*9)).add 1)=some (vI6 (f i).p)∧w.cell? ((a'.add (i*9)).add 2)=some (vU6 ((f i).d:Int))∧w.cell? ((a'.add (i*9)).add 3)=some (.slice (f i).ca (f i).len (f i).cc)∧w.cell? ((a'.add (i*9)).add 4)=some (vU6 ((f i).b:Int))∧w.cell? ((a'.add (i*9)).add 5)=some (vU6 ((f i).e:Int))∧w.cell? ((a'.add (i*9)).add 6)=some (vI6 (f i).g)∧w.cell? ((a'.add (i*9)).add 7)=some (vU8 ((f i).l:Int))∧w.cell? ((a'.add (i*9)).add 8)=some (vI6 (f i).s))∧(f i).d<18446744073709551616∧(f i).l<256∧(f i).len<9223372036854775808∧((f i).len≤(f i).cc∧(f i).cc<9223372036854775808)∧Ex.Prg w (f i).ca (f i).len (f i).O (f i).R:=
   ⟨fun i=>if hi:i<len then(hone i hi).choose else⟨0,0,0,none,0,0,fun _=>0,fun _=>0,0,0,0,0,0⟩,fun i hi=>by simp only[dif_pos hi];exact(hone i hi).choose_spec⟩
  refine⟨f,?_⟩
  by_cases h0:len=0
  ·exact .inl h0
  ·right
   obtain⟨b,off,spot⟩:=a'
   obtain⟨⟨g0,_⟩,_⟩:=hf 0 (by omega)
   have hspot:spot=none:=by
    have:=World.cell?_spot g0
    simpa [Addr.add] using this
   subst hspot
   have hlt:b<w.heap.size:=by
    have:=World.block_lt_of_cell? w _ g0
    simpa [Addr.add] using this
   refine⟨b,off,rfl,hlt,fun j hj=> ?_⟩
   obtain⟨⟨g0,g1,g2,g3,g4,g5,g6,g7,g8⟩,q1,q2,q3,q4,q5⟩:=hf j hj
   simp only[Go.WideShapes.add_plain] at g0 g1 g2 g3 g4 g5 g6 g7 g8
   exact⟨g0,g1,g2,g3,g4,g5,g6,g7,g8,q1,q2,q3,q4,q5⟩
theorem open_sc {r:Reach} {b0:Nat} {v:Value} {d:DataW H} {p:List MemPlace} (hv:Value.okWide Tryz.prog w r b0 24 v) (h:DataW.Trod enc Tryz.prog w base spare held 24 v d p):
  ∃(x0 x1 x2 x3 x4 x5:Nat) (a:Option Addr) (len cap:Nat) (X:Nat→Dx),v= .agg #[vU8 (x0:Int),vU8 (x1:Int),vU8 (x2:Int),vU8 (x3:Int),vU8 (x4:Int),vU8 (x5:Int),.slice a len cap]∧(x0<256∧x1<256∧x2<256∧x3<256∧x4<256∧x5<256)∧len<9223372036854775808∧Dxs w a len X:=by
 obtain⟨cs,rfl,hsz⟩:=okWide_struct Tryz.underlying24 hv
 rw[cellsSc] at hsz
 obtain⟨l⟩:=cs
 match l,hsz with
 |[c0,c1,c2,c3,c4,c5,c6],_=>
  obtain⟨fuel,hf0⟩:=h
  have hf1:DataW.trod enc Tryz.prog w base spare held fuel 24 [c0,c1,c2,c3,c4,c5,c6]=some (d,p):=by simpa [Value.cells] using hf0
  obtain⟨xs,n,_,_,_,hl,hf⟩:=DataW.trod_struct Tryz.underlying24 hf1
  match xs,hl with
  |[y0,y1,y2,y3,y4,y5,y6],_=>
   obtain⟨z0,e0,_,w0⟩:=DataW.trod_int Tryz.underlying5 (by simpa [cellsU8x] using hf 0 _ rfl)
   obtain⟨z1,e1,_,w1⟩:=DataW.trod_int Tryz.underlying5 (by simpa [cellsU8x] using hf 1 _ rfl)
   obtain⟨z2,e2,_,w2⟩:=DataW.trod_int Tryz.underlying5 (by simpa [cellsU8x] using hf 2 _ rfl)
   obtain⟨z3,e3,_,w3⟩:=DataW.trod_int Tryz.underlying5 (by simpa [cellsU8x] using hf 3 _ rfl)
   obtain⟨z4,e4,_,w4⟩:=DataW.trod_int Tryz.underlying5 (by simpa [cellsU8x] using hf 4 _ rfl)
   obtain⟨z5,e5,_,w5⟩:=DataW.trod_int Tryz.underlying5 (by simpa [cellsU8x] using hf 5 _ rfl)
   have h6:DataW.trod enc Tryz.prog w base spare held n 22 [c6]=some y6:=by simpa [cellsLx] using hf 6 _ rfl
   simp at e0 e1 e2 e3 e4 e5
   obtain⟨n0,rfl,q0⟩:=b8' w0
   obtain⟨n1,rfl,q1⟩:=b8' w1
   obtain⟨n2,rfl,q2⟩:=b8' w2
   obtain⟨n3,rfl,q3⟩:=b8' w3
   obtain⟨n4,rfl,q4⟩:=b8' w4
   obtain⟨n5,rfl,q5⟩:=b8' w5
   obtain⟨a,len,cap,rfl⟩: ∃ca len cc,c6= .slice ca len cc:=by
    rcases open_slice Tryz.underlying22 h6 with ⟨hcs,_⟩|⟨a',len',cap',m,n',D,Pl,hcs,_⟩
    ·simp at hcs
     exact⟨_,_,_,hcs⟩
    ·simp at hcs
     exact⟨_,_,_,hcs⟩
   obtain⟨l1,l2,X,hX⟩:=open_dxs (a:=a) (len:=len) (cap:=cap) (by simpa [Value.cells] using h6)
   exact⟨n0,n1,n2,n3,n4,n5,a,len,cap,X,by rw[e0,e1,e2,e3,e4,e5],⟨q0,q1,q2,q3,q4,q5⟩,l1,hX⟩
end
end Go.Proofs.YtnmhcgpnhlhcgaaGreatDoor
namespace Go.Proofs.YtnmhcgpnhlhcgaaGreatDoor
open Go.RowKit Go.Lib Go.Shelf
attribute [local go_sem ↓] Go.wp_at_zero Go.wp_at_succ
theorem buildCf (a b c d e f:Int) (w:World):(Instr.build 30 #[(0,vI6 a),(1,vI6 b),(2,vI6 c),(3,vI6 d),(4,vU6 e),(5,vU6 f)]).run Tryz.prog w= .ok (.agg #[vI6 a,vI6 b,vI6 c,vI6 d,vU6 e,vU6 f]) w:=run_build w 30 _ _ (by kernel_rfl)
theorem wi8 {x:Nat} (h:x<9223372036854775808):IntKind.i64.wrap (x:Int)=(x:Int):=by simp[IntKind.wrap,IntKind.bits,IntKind.signed];omega
theorem wu8 {x:Nat} (h:x<18446744073709551616):IntKind.u64.wrap (x:Int)=(x:Int):=by simp[IntKind.wrap,IntKind.bits,IntKind.signed];omega
theorem tmN (x k:Nat):(x:Int).tmod (k:Int)=((x%k:Nat):Int):=by rw[Int.tmod_eq_emod_of_nonneg (by omega)];rfl
theorem config_ok (x0 x1 x2 x3 x4 x5:Nat) (h0:x0<256) (h1:x1<256) (h2:x2<256) (h3:x3<256) (h4:x4<256) (h5:x5<256) (v:Value) (w:World):
  vQ 12 #[.agg #[vU8 (x0:Int),vU8 (x1:Int),vU8 (x2:Int),vU8 (x3:Int),vU8 (x4:Int),vU8 (x5:Int),v]] w (.agg #[vI6 ((x0%4+1:Nat):Int),vI6 ((x1%8+1:Nat):Int),vI6 ((x2%3+1:Nat):Int),vI6 ((x3%5:Nat):Int),vU6 ((x4%5+1:Nat):Int),vU6 ((x5%9+1:Nat):Int)]):=by
 have hbi:=buildCf
 have a0:IntKind.i64.wrap (x0:Int)=(x0:Int):=wi8 (by omega)
 have a1:IntKind.i64.wrap (x1:Int)=(x1:Int):=wi8 (by omega)
 have a2:IntKind.i64.wrap (x2:Int)=(x2:Int):=wi8 (by omega)
 have a3:IntKind.i64.wrap (x3:Int)=(x3:Int):=wi8 (by omega)
 have a4:IntKind.u64.wrap (x4:Int)=(x4:Int):=wu8 (by omega)
 have a5:IntKind.u64.wrap (x5:Int)=(x5:Int):=wu8 (by omega)
 refine ge ?_
 go_wp2
 simp[bodyPost,results,Tryz.results12,go_sem]
 exact bzA.alloc (by simp) _
theorem few_ok (a:Option Addr) (len cap:Nat) (hc:len≤cap) (w:World):
  vS 19 #[.slice a len cap] w (.slice a (min len 70) cap):=by
 by_cases h:70<len
 ·have h':(70:Int)<(len:Int):=by omega
  have hcp:(70:Int)≤(cap:Int):=by omega
  rw[show min len 70=70 by omega]
  refine ge ?_
  go_wp2
  go_ret
  exact⟨rfl,rfl⟩
 ·have h': ¬(70:Int)<(len:Int):=by omega
  rw[show min len 70=len by omega]
  refine ge ?_
  go_wp2
  go_ret
  exact⟨rfl,rfl⟩
end Go.Proofs.YtnmhcgpnhlhcgaaGreatDoor
namespace Go.Proofs.YtnmhcgpnhlhcgaaGreatDoor
open Go.RowKit Go.Lib Go.Shelf
def Bud (b p:Nat) (L:List Cb.Srv) (now sp:Nat):Prop:= ∃l d F,L=[⟨b,p,l,d⟩]∧l≤b∧sp+l≤F*b∧F*p≤d∧d≤now+p
def Wkd (M R:Mc):Prop:=R.nw=M.nw∧ ∀Φ:List Cb.Srv→Prop,(∀L i,Φ L→Φ (Cb.wakL L i M.nw))→Φ M.sv→Φ R.sv
section
variable {P n q B:Nat} {M R Z:Mc} {b p now sp l d:Nat} {L:List Cb.Srv}
theorem Bud.fill (h:Bud b p [⟨b,p,l,d⟩] now sp) (hd:d≤now) (hn:now+p<18446744073709551616):Bud b p [Cb.fillS ⟨b,p,l,d⟩ now] now sp:=by
 obtain⟨l',d',F,e,h1,h2,h3,h4⟩:=h
 injection e with e
 injection e with _ _ e1 e2
 subst e1 e2
 refine⟨b,now+p,F+1,?_,Nat.le_refl _,?_,?_,Nat.le_refl _⟩
 ·unfold Cb.fillS Cb.addN
  dsimp only
  rw[if_pos (by omega)]
 ·rw[Nat.succ_mul]
  omega
 ·rw[Nat.succ_mul]
  omega
theorem Bud.wak (h:Bud b p L now sp) (hn:now+p<18446744073709551616) (i:Int):Bud b p (Cb.wakL L i now) now sp:=by
 have h0:=h
 obtain⟨l,d,F,rfl,_⟩:=h0
 unfold Cb.wakL
 split
 ·rename_i q
  have e:i=0:=by
   have:=q.1
   unfold Cb.inL at this
   simp at this
   omega
  subst e
  exact h.fill q.2 hn
 ·exact h
theorem Bud.ref (h:Bud b p L now sp) (hn:now+p<18446744073709551616):Bud b p (L.map (Cb.refS now)) now sp:=by
 have h0:=h
 obtain⟨l,d,F,rfl,_⟩:=h0
 show Bud b p [Cb.refS now ⟨b,p,l,d⟩] now sp
 unfold Cb.refS
 split
 ·rename_i q
  unfold Cb.dueB at q
  simp at q
  exact h.fill q.1.2 hn
 ·exact h
theorem Wkd.refl:Wkd M M:=⟨rfl,fun _ _ h=>h⟩
theorem Wkd.trans (h:Wkd M R) (h':Wkd R Z):Wkd M Z:=⟨h'.1.trans h.1,fun Φ hw hm=>h'.2 Φ (by rw[h.1];exact hw) (h.2 Φ hw hm)⟩
theorem Wkd.bud (h:Wkd M R) (hb:Bud b p M.sv M.nw sp) (hn:M.nw+p<18446744073709551616):Bud b p R.sv R.nw sp:=by
 rw[h.1]
 exact h.2 (fun L=>Bud b p L M.nw sp) (fun L i hL=>hL.wak hn i) hb
theorem ready_wkd (M:Mc) (x:Nat):Wkd M (ready2 n M x):=by
 unfold ready2
 split
 ·exact .refl
 ·exact⟨rfl,fun Φ hw hm=>hw _ _ hm⟩
theorem grM_wkd (pr:Nat) (s:Mc×List Ev) (un lk:Int):Wkd s.1 (grM P n q pr s un lk).1:=by
 unfold grM
 split
 ·exact .refl
 ·exact ready_wkd _ _
theorem relL_wkd (pr x:Nat): ∀(ls:List Int) (s:Mc×List Ev),Wkd s.1 (ls.foldl (rel1 P n q pr x) s).1
 |[],s=> .refl
 |y::ls,s=>Wkd.trans (R:=(rel1 P n q pr x s y).1) (grM_wkd pr ({s.1 with gr:=(Pi.unlR s.1.gr (x:Int) y).2},s.2) _ _) (relL_wkd pr x ls _)
theorem doD_wkd (pr x:Nat) (M:Mc) (l:List Ev) (op ar:Int):Wkd M (doD P n q pr x M l op ar).1:=by
 unfold doD lockD unlD spwD extD
 repeat' split
 all_goals first
  |exact .refl
  |exact ready_wkd _ _
  |exact grM_wkd _ (unlM M x ar,_) _ _
  |exact relL_wkd _ _ _ (M,_)
theorem sM_wkd (M:Mc) (c d:Int):Wkd M (sM P n q M c d):=by
 have g:Wkd M (gvM P n q c.toNat M d):=by
  unfold gvM
  split
  ·exact ready_wkd _ _
  ·exact .refl
 unfold sM
 split
 ·show Wkd M (actD P n q c.toNat M d).1
  unfold actD tkD gonD
  repeat' split
  all_goals first
   |exact g
   |exact .refl
   |exact doD_wkd _ _ (frmM M _) _ _ _
 ·exact .refl
theorem gM_wkd (M:Mc) (pg:Int) (lv:Nat) (sv:Int):Wkd M (gM P n q M pg lv sv):=by
 unfold gM
 repeat' split
 all_goals first
  |exact .refl
  |exact ready_wkd _ _
theorem wok_wkd: ∀(ls:List Nat) (s:Mc×List Ev),Wkd s.1 (ls.foldl (wok1 P n q) s).1
 |[],s=> .refl
 |y::ls,s=>Wkd.trans (R:=(wok1 P n q s y).1) (ready_wkd _ _) (wok_wkd ls _)
theorem tick_wkd (M:Mc):Wkd (tickR (wkM (tickA M) P)) (tickM P n q M):=wok_wkd _ (_,_)
def cntS (M:Mc) (P:Nat):Nat:=((List.range P).filter (fun p=>(M.pc p).r != -1&&(M.th (M.pc p).r.toNat).sv==0)).length
theorem cntS_succ (M:Mc) (j:Nat):cntS M (j+1)=cntS M j+if (M.pc j).r≠ -1∧(M.th (M.pc j).r.toNat).sv=0 then 1 else 0:=by
 unfold cntS
 rw[List.range_succ,List.filter_append,List.length_append]
 by_cases h1:(M.pc j).r= -1<;>by_cases h2:(M.th (M.pc j).r.toNat).sv=0<;>simp[h1,h2]
theorem wkM_keeps (A:Mc): ∀j,(∀i,((wkM A j).pc i).r=(A.pc i).r)∧ ∀x,((wkM A j).th x).sv=(A.th x).sv
 |0=>⟨fun _=>rfl,fun _=>rfl⟩
 |j+1=>by
  obtain⟨h1,h2⟩:=wkM_keeps A j
  show(∀i,((wk1 (wkM A j) j).pc i).r=_)∧ ∀x,((wk1 (wkM A j) j).th x).sv=_
  unfold wk1
  split
  ·exact⟨h1,h2⟩
  ·refine⟨fun i=> ?_,fun x=> ?_⟩
   ·rw[←h1 i]
    show(upd (wkM A j).pc j (countP ((wkM A j).pc j) _) i).r=_
    unfold upd countP
    split
    ·rename_i e
     subst e
     split<;>rfl
    ·rfl
   ·rw[←h2 x]
    show((frM (wkM A j) _ _ _).th x).sv=_
    unfold frM
    dsimp only
    unfold upd
    split
    ·rename_i e
     subst e
     rfl
    ·rfl
theorem wkM_sv (A:Mc) (s:Cb.Srv) (h:A.sv=[s]): ∀j,(wkM A j).sv=[⟨s.b,s.p,s.l-cntS A j,s.d⟩]
 |0=>by rw[show wkM A 0=A from rfl,h];simp[cntS]
 |j+1=>by
  obtain⟨h1,h2⟩:=wkM_keeps A j
  have ih:=wkM_sv A s h j
  rw[cntS_succ]
  show(wk1 (wkM A j) j).sv=_
  unfold wk1
  rw[h1 j]
  by_cases e1:(A.pc j).r= -1
  ·rw[if_pos e1,ih,if_neg (fun q=>q.1 e1)]
   simp
  ·rw[if_neg e1]
   show Cb.chgL (wkM A j).sv ((wkM A j).th (A.pc j).r.toNat).sv=_
   rw[h2,ih]
   generalize (A.th (A.pc j).r.toNat).sv=i
   unfold Cb.chgL
   by_cases e2:i=0
   ·rw[show(if (A.pc j).r≠ -1∧i=0 then 1 else 0)=1 from if_pos ⟨e1,e2⟩]
    subst e2
    split
    ·show [Cb.tickS _]=_
     unfold Cb.tickS Cb.atL
     simp
     omega
    ·rename_i q
     unfold Cb.inL Cb.atL at q
     simp at q
     simp
     omega
   ·rw[show(if (A.pc j).r≠ -1∧i=0 then 1 else 0)=0 from if_neg (fun q=>e2 q.2)]
    rw[if_neg (fun q=>e2 (by
     have:=q.1
     unfold Cb.inL at this
     simp at this
     omega))]
    simp
theorem bud_tick (h:Bud b p M.sv M.nw sp) (hn:M.nw+p+1<18446744073709551616) {k:Nat} (hk:k≤cntS M P):Bud b p (tickM P n q M).sv (tickM P n q M).nw (sp+min k (Cb.atL M.sv 0).l)∧(tickM P n q M).nw=M.nw+1:=by
 have hnw:(tickA M).nw=M.nw+1:=by
  show max (Cb.addN M.nw 1) M.nw=_
  unfold Cb.addN
  rw[if_pos (by omega)]
  omega
 have hw1: ∀j,(wkM (tickA M) j).nw=M.nw+1:=fun j=>by
  induction j with
  |zero=>exact hnw
  |succ j ih=>
   show(wk1 (wkM (tickA M) j) j).nw=_
   unfold wk1
   split<;>exact ih
 obtain⟨l,d,F,e,h1,h2,h3,h4⟩:=h
 have hsv:=wkM_sv (tickA M) ⟨b,p,l,d⟩ e P
 have hl:(Cb.atL M.sv 0).l=l:=by
  rw[e]
  rfl
 have hc:cntS (tickA M) P=cntS M P:=rfl
 rw[hc] at hsv
 have hB:Bud b p (wkM (tickA M) P).sv (M.nw+1) (sp+min k l):=by
  rw[hsv]
  exact⟨l-cntS M P,d,F,rfl,by omega,by omega,h3,by omega⟩
 have hR:Bud b p (tickR (wkM (tickA M) P)).sv (tickR (wkM (tickA M) P)).nw (sp+min k l):=by
  show Bud b p ((wkM (tickA M) P).sv.map (Cb.refS (wkM (tickA M) P).nw)) (wkM (tickA M) P).nw _
  rw[hw1]
  exact hB.ref (by omega)
 have hW:=tick_wkd (P:=P) (n:=n) (q:=q) M
 rw[hl]
 exact⟨hW.bud hR (by show(wkM (tickA M) P).nw+p<_;rw[hw1];omega),hW.1.trans (hw1 P)⟩
theorem Bud.keeps (h:Bud b p L now sp) (hp:1≤p):(Cb.atL L 0).l≤b∧sp≤(now/p+2)*b:=by
 obtain⟨l,d,F,rfl,h1,h2,h3,h4⟩:=h
 refine⟨h1,?_⟩
 have hF:F≤now/p+1:=by
  have:F*p≤now+p:=by omega
  have:=(Nat.le_div_iff_mul_le (by omega:0<p)).2 this
  rwa [Nat.add_div_right _ (by omega)] at this
 have:=Nat.mul_le_mul_right b hF
 rw[Nat.succ_mul] at this⊢
 rw[Nat.succ_mul]
 omega
theorem sub_len: ∀(xs zs:List Nat),xs.Nodup→(∀x∈xs,x∈zs)→xs.length≤zs.length
 |[],zs,_,_=>Nat.zero_le _
 |x::xs,zs,hn,h=>by
  have hx:=h x (by simp)
  rw[List.nodup_cons] at hn
  have:=sub_len xs (zs.erase x) hn.2 (fun y hy=>(List.mem_erase_of_ne (fun e=>hn.1 (by rw[←e];exact hy))).2 (h y (by simp[hy])))
  rw[List.length_erase_of_mem hx] at this
  have:=List.length_pos_of_mem hx
  simp
  omega
end
attribute [local go_sem ↓] Go.wp_at_zero Go.wp_at_succ
def runS (M:Mc) (n:Nat) (l:List Nat):Nat:=(l.filter (fun x=>stOf M n (M.th x)==2&&(M.th x).sv==0)).length
theorem runS_snoc (M:Mc) (n:Nat) (l:List Nat) (x:Nat):runS M n (l++[x])=runS M n l+if stOf M n (M.th x)=2∧(M.th x).sv=0 then 1 else 0:=by
 unfold runS
 rw[List.filter_append,List.length_append]
 by_cases h1:stOf M n (M.th x)=2<;>by_cases h2:(M.th x).sv=0<;>simp[h1,h2]
section
variable {P n q B T:Nat} {M:Mc} {w:World} {lab:Nat→Nat} {a:Ad}
theorem runS_le (hI:Iv P n B [] M):runS M n (liveL M n)≤cntS M P:=by
 unfold runS cntS
 have:=sub_len ((liveL M n).filter (fun x=>stOf M n (M.th x)==2&&(M.th x).sv==0)) (((List.range P).filter (fun p=>(M.pc p).r != -1&&(M.th (M.pc p).r.toNat).sv==0)).map (fun p=>(M.pc p).r.toNat)) ((live_nd M n).filter _) (fun x hx=> ?_)
 ·simpa using this
 ·obtain⟨h1,h2⟩:=List.mem_filter.1 hx
  obtain⟨h3,h4⟩:=liveL_in.1 h1
  simp only[Bool.and_eq_true,beq_iff_eq] at h2
  have ht:=hI.th x h3 h4
  have hs:M.S x=2:=by rw[←stOf_at h3 ht.p ht.g h4];exact h2.1
  obtain⟨p,hp,hr⟩:=hI.r2 x h3 hs
  refine List.mem_map.2 ⟨p,List.mem_filter.2 ⟨by simpa using hp,?_⟩,by rw[hr];simp⟩
  rw[hr]
  simp[h2.2]
theorem tRows_at (M:Mc) (n:Nat): ∀(l:List Nat) (j x:Nat),l[j]? =some x→ ∀(i:Nat) (u:Value),(tRow M n x)[i]? =some u→(tRows M n l)[j*11+i]? =some u
 |[],j,x,h=>by simp at h
 |y::l,j,x,h=>by
  intro i u hu
  have hi:i<11:=(List.getElem?_eq_some_iff.1 hu).1
  show(tRow M n y++tRows M n l)[j*11+i]? =_
  cases j with
  |zero=>
   simp at h
   subst h
   rw[Nat.zero_mul,Nat.zero_add,List.getElem?_append_left hi]
   exact hu
  |succ j=>
   rw[List.getElem?_append_right (by show 11≤_;omega),show(j+1)*11+i-(tRow M n y).length=j*11+i by show(j+1)*11+i-11=_;omega]
   exact tRows_at M n l j x (by simpa using h) i u hu
theorem running_ok (h : IsMc w lab a P n q T M) : vQ 15 #[vPt a.m, vI6 0] w (vU6 (runS M n (liveL M n) : Int)) := by
 have HT : Hid (vCa 43 #[vPt a.m] w fun e w' => ∃ ad cap, e = .returned (.slice ad (liveL M n).length cap) ∧ (∀ (j x : Nat), (liveL M n)[j]? = some x → ∃ g, ad = some (vA0 g) ∧ g < w'.heap.size ∧ ∀ (i : Nat) (u : Value), (tRow M n x)[i]? = some u → w'.cell? (vAt g (j * 11 + i)) = some u) ∧ vBw w w') := by
  refine h.threads.mono ?_
  rintro e w' ⟨v, rfl, ho, hb⟩
  rcases ho.2 with ⟨hv, hz⟩ | ⟨g, cap, cur, hv, _, hg, hrow⟩
  ·exact ⟨none, 0, by rw [hv, hz], fun j x hx => by
    have := (List.getElem?_eq_some_iff.1 hx).1
    omega, hb⟩
  ·refine ⟨some (vA0 g), cap, by rw [hv], fun j x hx => ⟨g, rfl, (Array.getElem?_eq_some_iff.1 hg).1, fun i u hu => ?_⟩, hb⟩
   have := tRows_at M n _ j x hx i u hu
   rw [← hrow.2.2.2, List.getElem?_take] at this
   split at this
   ·simp only [World.cell?, hg]
    grind
   ·cases this
 have hlen := liveL_len M n
 have hn := h.hn
 obtain ⟨L, hL⟩ : ∃ L, liveL M n = L := ⟨_, rfl⟩
 rw [hL] at HT hlen ⊢
 clear h hL
 obtain ⟨len, hle⟩ : ∃ len, L.length = len := ⟨_, rfl⟩
 have HLE := veil hle
 rw [hle] at HT hlen
 have hrl : ∀ j, runS M n (L.take j) ≤ 1024 := fun j => by
  have h1 := List.length_filter_le (fun x => stOf M n (M.th x) == 2 && (M.th x).sv == 0) (L.take j)
  have h2 : (L.take j).length ≤ len := by rw [List.length_take, hle]; exact Nat.min_le_right _ _
  unfold runS
  omega
 clear hle
 refine ge ?_
 go_wp2_with (go_at_call 43; refine (HT.out).mono ?_; rintro e w1 ⟨ad, cap, rfl, hat, hb1⟩; have HAT := veil hat; have HB1 := veil hb1; clear hat hb1 HT)
 go_loopw [5, 7] (fun cv iv wr => ∃ j : Nat, j ≤ len ∧ iv = vI6 (j : Int) ∧ cv = vU6 (runS M n (L.take j) : Int) ∧ wr = w1) (fun _ iv _ => len - (RowKit.intOf iv).toNat)
 case atStart => exact ⟨0, Nat.zero_le _, rfl, rfl, rfl⟩
 case round =>
  obtain ⟨j, hj, rfl, rfl, rfl⟩ := hrel
  by_cases hjl : j < len
  ·have hjl' : (j : Int) < (len : Int) := by omega
   obtain ⟨x, hx⟩ : ∃ x, L[j]? = some x := ⟨L[j]'(by rw [HLE.out]; exact hjl), List.getElem?_eq_getElem _⟩
   obtain ⟨g, rfl, hg, hc⟩ := HAT.out j x hx
   have c2 := hc 2 _ rfl
   have c7 := hc 7 _ rfl
   have htk : L.take (j + 1) = L.take j ++ [x] := by rw [List.take_add_one, hx]; rfl
   have hrs := runS_snoc M n (L.take j) x
   rw [← htk] at hrs
   have h1 := hrl j
   obtain ⟨s, hs⟩ : ∃ s, stOf M n (M.th x) = s := ⟨_, rfl⟩
   obtain ⟨v, hv⟩ : ∃ v, (M.th x).sv = v := ⟨_, rfl⟩
   rw [hs] at c2 hrs
   rw [hv] at c7 hrs
   obtain ⟨c, hcc⟩ : ∃ c, runS M n (L.take j) = c := ⟨_, rfl⟩
   rw [hcc] at hrs h1
   have HRS := veil hrs
   have HCC := veil hcc
   clear hx hc htk hrs hs hv hcc
   have hw : IntKind.u64.wrap ((c : Int) + 1) = ((c + 1 : Nat) : Int) := by simp [IntKind.wrap, IntKind.bits, IntKind.signed]; omega
   obtain ⟨b1, hb1⟩ : ∃ b1, ((s : Int) == 2) = b1 := ⟨_, rfl⟩
   obtain ⟨b2, hb2⟩ : ∃ b2, (v == 0) = b2 := ⟨_, rfl⟩
   rw [HCC.out]
   have HB := veil (And.intro hb1 hb2)
   clear HLE
   cases b1 <;> cases b2
   all_goals
    go_wp2
    go_roundw
   all_goals first
    | (simp [RowKit.intOf]; omega; done)
    | (obtain ⟨h2, h3⟩ := HB.out
       refine ⟨j + 1, by omega, by go_num, ?_, trivial⟩
       rw [HRS.out]
       simp only [beq_iff_eq, beq_eq_false_iff_ne, ne_eq] at h2 h3
       have h2 : s = 2 ∨ ¬ s = 2 := Classical.em _
       grind)
  ·have hjl' : ¬ (j : Int) < (len : Int) := by omega
   have ej : L.take j = L := List.take_of_length_le (by rw [HLE.out]; omega)
   rw [ej]
   go_wp2
   go_ret
   exact ⟨rfl, HB1.out⟩
end
structure BJ (P n b p j T:Nat) (M:Mc) (sp tk:Nat):Prop where
 i:Iv P n j [] M
 t:T≤1000*j
 b:Bud b p M.sv M.nw sp
 w:M.nw=tk
 k:tk≤j
 r:M.pr.length≤16
section
variable {w V:World} {ad:Ad} {P n q T T' b p j sp tk:Nat} {M M':Mc} {K:Nat→Prop}
theorem BJ.of (h:BJ P n b p j T M sp tk) {R:Mc} (hw:Wkd M R) (hI:Iv P n (j+1) [] R) (hT:T'≤T+1000) (hr:R.pr.length≤16) (hp:tk+p<18446744073709551616):BJ P n b p (j+1) T' R sp tk:=
 ⟨hI,by have:=h.t;omega,hw.bud h.b (by rw[h.w];exact hp),hw.1.trans h.w,Nat.le_succ_of_le h.k,hr⟩
theorem AlK.callG (h:AlK w V ad P n q T M K) {f:Nat} {args:Array Value} {R:Ending→World→Prop} (hc: ∀lab,IsMc V lab ad P n q T M→vCa f args V fun e w'=>R e w'∧Goes V w' lab ad P n q T' M'):
  vCa f args V fun e w'=>R e w'∧AlK w w' ad P n q T' M' K∧ ∀k,K k→w'.heap[k]? =V.heap[k]? :=by
 obtain⟨⟨lab,hi,h1,h2⟩,hb⟩:=h
 refine(hc lab hi).mono ?_
 rintro e w' ⟨hr,lab',hi',hl,hf⟩
 refine⟨hr,⟨⟨lab',hi',fun k hk=> ?_,fun k hk=>⟨(hl.old k (h2 k hk).2).trans (h2 k hk).1,Nat.lt_of_lt_of_le (h2 k hk).2 hf.size⟩⟩,hb.trans ⟨hf.os,hf.tape,hf.output,hf.size,fun k hk=>hf.block k (Nat.lt_of_lt_of_le hk hb.size) (fun q=>by grind)⟩⟩,fun k hk=>hf.block k (h2 k hk).2 (fun q=>q (h2 k hk).1)⟩
 rcases Nat.lt_or_ge k V.heap.size with q|q
 ·exact h1 k (by rw[←hl.old k q];exact hk)
 ·exact Nat.le_trans hb.size q
theorem AlK.one (h:AlK w V ad P n q T M K): ∃lab,IsMc V lab ad P n q T M:=by
 obtain⟨⟨lab,hi,_⟩,_⟩:=h
 exact⟨lab,hi⟩
theorem AlK.callN (h:AlK w V ad P n q T M K) {f:Nat} {args:Array Value} {R:Ending→Value→Prop} {base:Nat} {l:List Ev} (hc: ∀lab,IsMc V lab ad P n q T M→vCa f args V fun e w'=> ∃v,R e v∧EvL w' base v l∧GoesV V w' lab ad P n q T' M' v):
  vCa f args V fun e w'=>(∃v,R e v)∧AlK w w' ad P n q T' M' K∧ ∀k,K k→w'.heap[k]? =V.heap[k]? :=
 h.callG (fun lab hi=>(hc lab hi).mono (fun e w' ⟨v,hr,hv,l',h1,h2,h3,_⟩=>⟨⟨v,hr⟩,l',h1,h2,h3⟩))
theorem bn_step (h:AlK w V ad P n q T M K) (hJ:BJ P n b p j T M sp tk) (hj:j≤200) (hn:n≤12) (hp:p≤10) (c:Int) (d:Nat) (hd:d<18446744073709551616):
  vCa 14 #[vPt ad.m,vI6 c,vU6 (d:Int)] V fun e w'=>(∃v x,e=vRt #[v,vI6 x])∧ ∃T' M',(AlK w w' ad P n q T' M' K∧ ∀k,K k→w'.heap[k]? =V.heap[k]?)∧BJ P n b p (j+1) T' M' sp tk:=by
 have ht:tms n≤600:=by
  unfold tms tmx
  omega
 have:=hJ.t
 have:=hJ.k
 obtain⟨lab,hi⟩:=h.one
 have hI:=hJ.i.step (q:=q) (by omega) hi c d ⟨by omega,by omega⟩ (by omega)
 refine(h.callN (R:=fun e v=>e=vRt #[v,vI6 (sC P c)]) (fun lab hi=>hi.step_all hJ.i (by omega) c d ⟨by omega,by omega⟩ (by omega))).mono ?_
 rintro e w' ⟨⟨v,rfl⟩,hA⟩
 exact⟨⟨v,_,rfl⟩,_,_,hA,hJ.of (sM_wkd M c d) hI (by omega) (by rw[sM_pr];exact hJ.r) (by omega)⟩
theorem bn_start (h:AlK w V ad P n q T M K) (hJ:BJ P n b p j T M sp tk) (hj:j≤200) (hP:1≤P) (hn:n≤12) (hp:p≤10) (pg:Int) (lv:Nat) (hl:lv<256):
  vCa 20 #[vPt ad.m,vI6 pg,vU8 (lv:Int),vI6 0] V fun e w'=>(∃v x,e=vRt #[v,vI6 x])∧ ∃T' M',(AlK w w' ad P n q T' M' K∧ ∀k,K k→w'.heap[k]? =V.heap[k]?)∧BJ P n b p (j+1) T' M' sp tk:=by
 have:=hJ.t
 have:=hJ.k
 refine(h.callN (R:=fun e v=>e=vRt #[v,vI6 (gC M n pg 0)]) (fun lab hi=>hi.start_all hJ.i (by omega) pg lv hl 0 (by omega))).mono ?_
 rintro e w' ⟨⟨v,rfl⟩,hA⟩
 exact⟨⟨v,_,rfl⟩,_,_,hA,hJ.of (gM_wkd M pg lv 0) (hJ.i.startAll hP pg lv 0) (by omega) (by rw[gM_pr];exact hJ.r) (by omega)⟩
theorem bn_load (h:AlK w V ad P n q T M K) (hJ:BJ P n b p j T M sp tk) (hj:j≤200) (hp:p≤10) (a:Option Addr) (len cap:Nat) (hl:len≤70) (O R:Nat→Int) (hr:Ex.Prg V a len O R):
  vCa 18 #[vPt ad.m,.slice a len cap] V fun e w'=>(∃v x,e=vRt #[v,vI6 x])∧ ∃T' M',(AlK w w' ad P n q T' M' K∧ ∀k,K k→w'.heap[k]? =V.heap[k]?)∧BJ P n b p (j+1) T' M' sp tk:=by
 have:=hJ.t
 have:=hJ.k
 refine(h.callG (fun lab hi=>hi.load_all hJ.r a len cap (by omega) O R hr)).mono ?_
 rintro e w' ⟨⟨x,y,rfl⟩,hA⟩
 refine⟨⟨_,_,rfl⟩,_,_,hA,hJ.of ?_ ((hJ.i.loadAll ⟨len,O,R⟩).more (Nat.le_succ _)) (by omega) ?_ (by omega)⟩
 ·unfold lM
  split
  ·exact⟨rfl,fun _ _ h=>h⟩
  ·exact .refl
 ·have:=hJ.r
  unfold lM
  split
  ·simp
   omega
  ·omega
theorem bn_tick (h:AlK w V ad P n q T M K) (hJ:BJ P n b p j T M sp tk) (hj:j≤200) (hP:P≤64) (hn:n≤12) (hp:p≤10):
  vCa 17 #[vPt ad.m] V fun e w'=>(∃v,e= .returned v)∧ ∃T' M',(AlK w w' ad P n q T' M' K∧ ∀k,K k→w'.heap[k]? =V.heap[k]?)∧BJ P n b p (j+1) T' M' (sp+min (runS M n (liveL M n)) (Cb.atL M.sv 0).l) (tk+1):=by
 have h1:=hJ.t
 have h2:=hJ.k
 have h3:(n+1)*n+n≤1000:=by
  have:=Nat.mul_le_mul (show n+1≤13 by omega) hn
  omega
 obtain⟨lab,hi⟩:=h.one
 have hI:=hJ.i.tick (q:=q) hi.wh.facts.2.1
 obtain⟨hb,hw⟩:=bud_tick (P:=P) (n:=n) (q:=q) hJ.b (by rw[hJ.w];omega) (runS_le hJ.i)
 refine(h.callN (R:=fun e v=>e= .returned v) (fun lab hi=>hi.tick hn hJ.i.rok (by omega))).mono ?_
 rintro e w' ⟨hv,hA⟩
 exact⟨hv,_,_,hA,hI.more (Nat.le_succ _),by omega,hb,by rw[hw,hJ.w],by omega,by rw[tickM_pr];exact hJ.r⟩
end
theorem adm0 {P b p:Nat} (hP:1≤P) (hp:1≤p∧p≤10) (hb:1≤b∧b≤p):Cb.admC P [] b p=0:=by
 have h1:Cb.rightB b p=true:=by
  unfold Cb.rightB
  have:232792560%p=0:=by
   have h10:=hp.2
   have h1:=hp.1
   clear hb
   match p,h1,h10 with
   |1,_,_|2,_,_|3,_,_|4,_,_|5,_,_|6,_,_|7,_,_|8,_,_|9,_,_|10,_,_=>rfl
  simp[this]
  omega
 have h2:b*(232792560/p)≤232792560:=Nat.le_trans (Nat.mul_le_mul_right _ hb.2) (Nat.mul_div_le _ _)
 unfold Cb.admC
 rw[h1,if_neg (by decide),if_neg (by decide),if_neg]
 have h3:Cb.asks ⟨b,p,0,0⟩=b*(232792560/p):=rfl
 have h4:Cb.sumOf []=0:=rfl
 rw[h3,h4]
 omega
theorem Iv.sv {P n B:Nat} {D:List Nat} {M:Mc} (hI:Iv P n B D M) (L:List Cb.Srv):Iv P n B D {M with sv:=L}:=
 ⟨hI.tl,hI.pl,hI.kr,hI.qu,hI.sl,hI.r1,hI.r2,hI.r3,fun x hx hs=>(by have t:=hI.th x hx hs;exact⟨t.p,t.g,t.pg,t.pc⟩),hI.st,hI.rd,hI.bl,hI.sp,hI.wl,hI.wt,hI.nd,hI.l32,hI.gb⟩
theorem per_at {i:Nat} (hi:i<10): ∀h,([vU6 1,vU6 2,vU6 3,vU6 4,vU6 5,vU6 6,vU6 7,vU6 8,vU6 9,vU6 10]:List Value)[i]'h=vU6 ((i+1:Nat):Int):=by
 intro h
 match i,hi with
 |0,_|1,_|2,_|3,_|4,_|5,_|6,_|7,_|8,_|9,_=>rfl
theorem BJ.tail {P n b p j T M sp tk} (h:BJ P n b p j T M sp tk) (hj:j≤200) (hp:1≤p) (hb:b≤10): ¬(b:Int)<((Cb.atL M.sv 0).l:Int)∧ ∃t t2 t3:Nat,(tk:Int)/(p:Int)=(t:Int)∧IntKind.u64.wrap (t:Int)=(t:Int)∧IntKind.u64.wrap ((t:Int)+2)=(t2:Int)∧IntKind.u64.wrap ((t2:Int)*(b:Int))=(t3:Int)∧ ¬(t3:Int)<(sp:Int)∧t3≤2020:=by
 obtain⟨h1,h2⟩:=h.b.keeps hp
 rw[h.w] at h2
 have h3:=Nat.div_le_self tk p
 have h4:=h.k
 have e0:(tk:Int)/(p:Int)=((tk/p:Nat):Int):=by simp
 rw[e0]
 generalize tk/p=d at*
 have h5:(d+2)*b≤202*10:=Nat.mul_le_mul (by omega) hb
 have e:((d+2:Nat):Int)*(b:Int)=(((d+2)*b:Nat):Int):=(Int.natCast_mul _ _).symm
 refine⟨by omega,d,d+2,(d+2)*b,rfl,wu8 (by omega),wu8 (x:=d+2) (by omega),?_,Int.not_lt.2 (Int.ofNat_le.2 h2),h5⟩
 rw[e]
 generalize (d+2)*b=s at*
 exact wu8 (by omega)
theorem SchedBudget_walk (x0 x1 x2 x3 x4 x5 : Nat) (h0 : x0 < 256) (h1 : x1 < 256) (h2 : x2 < 256) (h3 : x3 < 256) (h4 : x4 < 256) (h5 : x5 < 256) (la : Option Addr) (len cap : Nat) (X : Nat → Dx) (hlen : len < 9223372036854775808) (y z : Nat) (hy : y < 256) (hz : z < 256) (w : World) (hX : Dxs w la len X) (ht : Gt.Tab w) :
  vQ 3 #[.agg #[vU8 (x0 : Int), vU8 (x1 : Int), vU8 (x2 : Int), vU8 (x3 : Int), vU8 (x4 : Int), vU8 (x5 : Int), .slice la len cap], vU8 (y : Int), vU8 (z : Int)] w (.bool true) := by
 obtain ⟨P, eP⟩ : ∃ P, P = x0 % 4 + 1 := ⟨_, rfl⟩
 obtain ⟨n, en⟩ : ∃ n, n = x1 % 8 + 1 := ⟨_, rfl⟩
 obtain ⟨q, eq⟩ : ∃ q, q = x2 % 3 + 1 := ⟨_, rfl⟩
 obtain ⟨m, em⟩ : ∃ m, m = x3 % 5 := ⟨_, rfl⟩
 obtain ⟨qu, equ⟩ : ∃ qu, qu = x4 % 5 + 1 := ⟨_, rfl⟩
 obtain ⟨ag, eag⟩ : ∃ ag, ag = x5 % 9 + 1 := ⟨_, rfl⟩
 have hP : 1 ≤ P ∧ P ≤ 64 := by omega
 have hn : 1 ≤ n ∧ n ≤ 8 := by omega
 have hq : 1 ≤ q ∧ q ≤ 256 := by omega
 have hm : m ≤ 32 := by omega
 have hqu : 1 ≤ qu ∧ qu < 18446744073709551616 := by omega
 have hag : 1 ≤ ag ∧ ag < 18446744073709551616 := by omega
 have HCF : Hid (∀ V, vQ 12 #[.agg #[vU8 (x0 : Int), vU8 (x1 : Int), vU8 (x2 : Int), vU8 (x3 : Int), vU8 (x4 : Int), vU8 (x5 : Int), .slice la len cap]] V (.agg #[vI6 (P : Int), vI6 (n : Int), vI6 (q : Int), vI6 (m : Int), vU6 (qu : Int), vU6 (ag : Int)])) := by
  rw [eP, en, eq, em, equ, eag]
  exact fun V => config_ok x0 x1 x2 x3 x4 x5 h0 h1 h2 h3 h4 h5 _ V
 clear eP en eq em equ eag
 obtain ⟨i, hi⟩ : ∃ i, z % 10 = i := ⟨_, rfl⟩
 have hi10 : i < 10 := by omega
 have ez : ((z : Int)).tmod 10 = (i : Int) := by rw [show (10 : Int) = ((10 : Nat) : Int) from rfl, tmN, hi]
 have hwz : IntKind.i64.wrap (z : Int) = (z : Int) := wi8 (by omega)
 have hwy : IntKind.u64.wrap (y : Int) = (y : Int) := wu8 (by omega)
 have hpa := per_at hi10
 obtain ⟨p, hp⟩ : ∃ p, i + 1 = p := ⟨_, rfl⟩
 rw [hp] at hpa
 have hp1 : 1 ≤ p ∧ p ≤ 10 := by omega
 obtain ⟨b, hb⟩ : ∃ b, y % p + 1 = b := ⟨_, rfl⟩
 have hb1 : 1 ≤ b ∧ b ≤ p := by
  have := Nat.mod_lt y (show 0 < p by omega)
  omega
 have ey : IntKind.u64.wrap ((y : Int) % (p : Int) + 1) = (b : Int) := by
  rw [show (y : Int) % (p : Int) + 1 = (b : Int) by omega]
  exact wu8 (by omega)
 have hip : (i : Int) < 10 := by omega
 have hi0 : ¬ (i : Int) < 0 := by omega
 have hp0 : ((p : Int) == 0) = false := by
  have : ¬ (p : Int) = 0 := by omega
  simpa using this
 have HN : Hid (∀ V, vBw w V → vCa 11 #[.agg #[vI6 (P : Int), vI6 (n : Int), vI6 (q : Int), vI6 (m : Int), vU6 (qu : Int), vU6 (ag : Int)]] V fun e w' => ∃ a, e = .returned (vPt a.m) ∧ AlK V w' a P n q 0 (newMc P n m qu ag) (fun _ => False)) := fun V hb => (new_al P n q m qu ag hP ⟨hn.1, by omega⟩ hq hm hqu hag V (ht.below hb)).mono (fun e w' ⟨a, he, hA⟩ => ⟨a, he, hA.k⟩)
 have HAD : Hid (∀ W V ad, AlK W V ad P n q 0 (newMc P n m qu ag) (fun _ => False) → vCa 13 #[vPt ad.m, vU6 (b : Int), vU6 (p : Int)] V fun e w' => e = vRt #[vI6 0, vI6 0] ∧ ∃ M, AlK W w' ad P n q 0 M (fun _ => False) ∧ BJ P n b p 0 0 M 0 0) := fun W V ad h => by
  refine (h.callG (fun lab hi => hi.admit b p)).mono ?_
  have e0 : Cb.admC P (newMc P n m qu ag).sv b p = 0 := adm0 hP.1 hp1 hb1
  have e1 : Cb.admN P (newMc P n m qu ag).sv b p = 0 := by
   unfold Cb.admN
   rw [e0]
   rfl
  have e2 : Cb.admL P (newMc P n m qu ag).sv b p = [⟨b, p, 0, 0⟩] := by
   unfold Cb.admL
   rw [e0]
   rfl
  rw [e0, e1, e2]
  rintro e w' ⟨rfl, hA, _⟩
  exact ⟨rfl, _, hA, (Iv.new P n m qu ag hm hqu.1).sv _, Nat.le_refl _, ⟨0, 0, 0, rfl, Nat.zero_le _, by simp, by simp, Nat.zero_le _⟩, rfl, Nat.le_refl _, Nat.zero_le _⟩
 have HLV : Hid (∀ V, vBw w V → vQ 21 #[] V (.bool true)) := fun V hb => live1_ok V (ht.below hb)
 clear ht hm hqu hag hq hz hy h0 h1 h2 h3 h4 h5 hi hp hb
 have HX := veil hX
 clear hX
 refine ge ?_
 go_wp2_with (first
  | (go_at_call 12; refine cH (HCF.out _) fun w1 HB1 => ?_; have hW := bt (show vBw w _ from bzA.alloc (by simp) _) HB1.out; have k6 : w1.cell? (vAt w.heap.size 6) = some (.slice la len cap) := (kc HB1.out (kc bzA (newc w _ _ 6 _ rfl))); have HW := veil hW; have K6 := veil k6; clear hW k6)
  | (go_at_call 11; refine (HN.out w1 HW.out).mono ?_; rintro e w2 ⟨ad, rfl, hA⟩; have HA := veil hA; clear hA)
  | (go_at_call 13; refine (HAD.out w1 w2 ad HA.out).mono ?_; rintro e w3 ⟨rfl, M3, hA3, hJ3⟩; have HA3 := veil hA3; have HJ3 := veil hJ3; clear hA3 hJ3))
 obtain ⟨kk, hkk⟩ : ∃ kk, min len 120 = kk := ⟨_, rfl⟩
 go_loopw [13, 14, 15] (fun tv sv kv wr => ∃ (j T : Nat) (M : Mc) (sp tk : Nat), j ≤ kk ∧ kv = vI6 (j : Int) ∧ tv = vU6 (tk : Int) ∧ sv = vU6 (sp : Int) ∧ AlK w1 wr ad P n q T M (fun _ => False) ∧ BJ P n b p j T M sp tk) (fun _ _ kv _ => kk - (RowKit.intOf kv).toNat)
 case atStart => exact ⟨0, 0, M3, 0, 0, Nat.zero_le _, rfl, rfl, rfl, HA3.out, HJ3.out⟩
 case round =>
  obtain ⟨j, T, M, sp, tk, hj, rfl, rfl, rfl, hA, hJ⟩ := hrel
  clear HA3 HJ3 HA HCF HN HAD
  have hbw := hA.bel
  have b6 : wr.cell? (vAt w.heap.size 6) = some (.slice la len cap) := kc hbw K6.out
  have HA := veil hA
  have HJ := veil hJ
  clear hA hJ
  by_cases hjl : j < kk
  ·have hj1 : (j : Int) < (len : Int) := by omega
   have hj2 : (j : Int) < 120 := by omega
   have hX := HX.out
   rcases hX with hX | ⟨lb, off, rfl, hlb, hX⟩
   ·omega
   have hx := hX j (by omega)
   have hww := bt HW.out hbw
   have d0 := kc hww hx.c0; have d1 := kc hww hx.c1; have d2 := kc hww hx.c2; have d3 := kc hww hx.c3; have d4 := kc hww hx.c4
   have d5 := kc hww hx.c5; have d6 := kc hww hx.c6; have d7 := kc hww hx.c7; have d8 := kc hww hx.c8
   have hxd := hx.d
   have hxl := hx.l
   have hxc := hx.cp
   have HPR := veil (fun V (h : vBw w V) => hx.pr.below h)
   generalize X j = x at *
   clear hx hX HX
   have HV : Hid (∀ o, AlK w1 (wr.alloc o) ad P n q T M (fun _ => False)) := fun o => HA.out.below bzA (fun k q => q.elim)
   have hjj : j ≤ 200 := by omega
   have HLF : Hid (∀ V T M, AlK w1 V ad P n q T M (fun _ => False) → vQ 16 #[vPt ad.m, vI6 0] V (vU6 ((Cb.atL M.sv 0).l : Int))) := fun V T M h => by
    obtain ⟨lab, hi⟩ := h.one
    exact hi.left 0
   clear hbw hjl
   obtain ⟨e0, k0⟩ : ∃ e0, (x.k == 0) = e0 := ⟨_, rfl⟩
   obtain ⟨e1, k1⟩ : ∃ e1, (x.k == 1) = e1 := ⟨_, rfl⟩
   obtain ⟨e2, k2⟩ : ∃ e2, (x.k == 2) = e2 := ⟨_, rfl⟩
   obtain ⟨e4, k4⟩ : ∃ e4, (x.k == 4) = e4 := ⟨_, rfl⟩
   cases e0
   case' pos.inr.false =>
    cases e1
    case' false =>
     cases e2
     case' false => cases e4
   case' pos.inr.false.false.false.true =>
    have HC := veil (fun o => bn_start (HV.out o) HJ.out hjj hP.1 (by omega) (by omega) x.g x.l hxl)
    go_wp2_with (first
     | (go_at_call 20; refine (HC.out _).mono ?_; rintro e w5 ⟨⟨v5, c5, rfl⟩, T5, M5, ⟨hA5, _⟩, hJ5⟩; obtain ⟨z1, t5, t6, t7, z2, z0, z3, z4, z5, _⟩ := hJ5.tail (by omega) hp1.1 (by omega); have HA5 := veil hA5; have HJ5 := veil hJ5; clear hA5 hJ5 HC HV)
     | (go_at_call 16; refine cH (HLF.out _ _ _ HA5.out) fun w6 HB6 => ?_; have HA6 := veil (HA5.out.below HB6.out (K' := fun _ => False) (fun _ q => q.elim)); clear HLF))
   case' pos.inr.false.false.true =>
    have HF := veil (fun V => few_ok x.ca x.len x.cc hxc.1 V)
    have HC := veil (fun o => bn_load (HV.out o) HJ.out hjj (by omega) x.ca (min x.len 70) x.cc (by omega) x.O x.R ((HPR.out _ (bt hww bzA)).cut (by omega)))
    go_wp2_with (first
     | (go_at_call 19; refine cS (HF.out _) ?_)
     | (go_at_call 18; refine (HC.out _).mono ?_; rintro e w5 ⟨⟨v5, c5, rfl⟩, T5, M5, ⟨hA5, _⟩, hJ5⟩; obtain ⟨z1, t5, t6, t7, z2, z0, z3, z4, z5, _⟩ := hJ5.tail (by omega) hp1.1 (by omega); have HA5 := veil hA5; have HJ5 := veil hJ5; clear hA5 hJ5 HC HV)
     | (go_at_call 16; refine cH (HLF.out _ _ _ HA5.out) fun w6 HB6 => ?_; have HA6 := veil (HA5.out.below HB6.out (K' := fun _ => False) (fun _ q => q.elim)); clear HLF))
   case' pos.inr.true =>
    have HC := veil (fun o => bn_step (HV.out o) HJ.out hjj (by omega) (by omega) x.p x.d hxd)
    go_wp2_with (first
     | (go_at_call 14; refine (HC.out _).mono ?_; rintro e w5 ⟨⟨v5, c5, rfl⟩, T5, M5, ⟨hA5, _⟩, hJ5⟩; obtain ⟨z1, t5, t6, t7, z2, z0, z3, z4, z5, _⟩ := hJ5.tail (by omega) hp1.1 (by omega); have HA5 := veil hA5; have HJ5 := veil hJ5; clear hA5 hJ5 HC HV)
     | (go_at_call 16; refine cH (HLF.out _ _ _ HA5.out) fun w6 HB6 => ?_; have HA6 := veil (HA5.out.below HB6.out (K' := fun _ => False) (fun _ q => q.elim)); clear HLF))
   case' pos.inr.false.false.false.false =>
    have hJ5 : BJ P n b p (j + 1) T M sp tk := HJ.out.of .refl (HJ.out.i.more (Nat.le_succ _)) (by omega) HJ.out.r (by have := HJ.out.k; omega)
    obtain ⟨z1, t5, t6, t7, z2, z0, z3, z4, z5, _⟩ := hJ5.tail (by omega) hp1.1 (by omega)
    have HJ5 := veil hJ5
    clear hJ5
    go_wp2_with (go_at_call 16; refine cH (HLF.out _ _ _ (HV.out _)) fun w6 HB6 => ?_; have HA6 := veil ((HV.out _).below HB6.out (K' := fun _ => False) (fun _ q => q.elim)); clear HLF HV)
   case' pos.inr.false.true =>
    obtain ⟨r, hr⟩ : ∃ r, runS M n (liveL M n) = r := ⟨_, rfl⟩
    obtain ⟨l, hl⟩ : ∃ l, (Cb.atL M.sv 0).l = l := ⟨_, rfl⟩
    have HR : Hid (∀ o, vQ 15 #[vPt ad.m, vI6 0] (wr.alloc o) (vU6 (r : Int))) := fun o => by
     obtain ⟨lab, hi⟩ := (HV.out o).one
     rw [← hr]
     exact running_ok hi
    have HL1 : Hid (∀ V, AlK w1 V ad P n q T M (fun _ => False) → vQ 16 #[vPt ad.m, vI6 0] V (vU6 (l : Int))) := fun V h => by
     rw [← hl]
     exact HLF.out V T M h
    have HC := fun V (hV : AlK w1 V ad P n q T M (fun _ => False)) => bn_tick hV HJ.out hjj hP.2 (by omega) (by omega)
    rw [hr, hl] at HC
    have hs : min r l ≤ 10 ∧ sp ≤ 2020 ∧ tk ≤ j := by
     have h1 := (HJ.out.b.keeps hp1.1).1
     obtain ⟨_, _, _, _, _, _, _, _, h2, h3⟩ := HJ.out.tail (by omega) hp1.1 (by omega)
     have := HJ.out.k
     omega
    obtain ⟨s, es⟩ : ∃ s, min r l = s := ⟨_, rfl⟩
    rw [es] at HC hs
    obtain ⟨sp2, es2⟩ : ∃ x, sp + s = x := ⟨_, rfl⟩
    obtain ⟨tk2, et2⟩ : ∃ x, tk + 1 = x := ⟨_, rfl⟩
    have hs2 : IntKind.u64.wrap ((sp : Int) + (s : Int)) = (sp2 : Int) := by
     rw [← es2]
     exact wu8 (x := sp + s) (by omega)
    have ht2 : IntKind.u64.wrap ((tk : Int) + 1) = (tk2 : Int) := by
     rw [← et2]
     exact wu8 (x := tk + 1) (by omega)
    rw [es2, et2] at HC
    have HC := veil HC
    clear hr hl es2 et2 hs
    by_cases hlr : (l : Int) < (r : Int)
    case' pos => have es : l = s := by omega
    case' neg => have es : r = s := by omega
    all_goals
     subst es
     go_wp2_with (first
      | (go_at_call 15; refine cH (HR.out _) fun w4 HB4 => ?_; have HV4 := veil ((HV.out _).below HB4.out (K' := fun _ => False) (fun _ q => q.elim)); clear HR HV)
      | (go_at_call 16; refine cH (HL1.out _ HV4.out) fun w5 HB5 => ?_; have HV5 := veil (HV4.out.below HB5.out (K' := fun _ => False) (fun _ q => q.elim)); clear HV4 HL1)
      | (go_at_call 17; refine (HC.out _ HV5.out).mono ?_; rintro e w7 ⟨⟨v5, rfl⟩, T5, M5, ⟨hA5, _⟩, hJ5⟩; obtain ⟨z1, t5, t6, t7, z2, z0, z3, z4, z5, _⟩ := hJ5.tail (by omega) hp1.1 (by omega); have HA5 := veil hA5; have HJ5 := veil hJ5; clear hA5 hJ5 HC HV5)
      | (go_at_call 16; refine cH (HLF.out _ _ _ HA5.out) fun w6 HB6 => ?_; have HA6 := veil (HA5.out.below HB6.out (K' := fun _ => False) (fun _ q => q.elim)); clear HLF))
   all_goals first
    | (exfalso; rename_i hh; rw [z0, z3, z4] at hh; omega)
    | (go_roundw
       all_goals first
         | (simp [RowKit.intOf]; omega; done)
         | exact ⟨j + 1, _, _, _, _, by omega, by go_num, rfl, rfl, HA6.out, HJ5.out⟩)
  ·by_cases h1 : (j : Int) < (len : Int)
   case' pos => have h2 : ¬ (j : Int) < 120 := by omega
   all_goals
    go_wp2_with (go_at_call 21; refine cH (HLV.out _ (bt HW.out HA.out.bel)) fun w9 HB9 => ?_)
    go_ret
    exact ⟨rfl, bt (bt HW.out HA.out.bel) HB9.out⟩
end Go.Proofs.YtnmhcgpnhlhcgaaGreatDoor

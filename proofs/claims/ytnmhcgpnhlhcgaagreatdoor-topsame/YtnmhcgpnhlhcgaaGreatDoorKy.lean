/- TopSame's walk. -/
import Derived.Test.YtnmhcgpnhlhcgaaGreatDoorKv
namespace Go.Proofs.YtnmhcgpnhlhcgaaGreatDoor
set_option maxHeartbeats 16000000
set_option linter.unusedVariables false
set_option linter.unusedSimpArgs false
set_option maxRecDepth 100000
open Go.RowKit Go.Lib Go.Shelf
attribute [local go_sem ↓] Go.wp_at_zero Go.wp_at_succ
section
variable {w V d:World} {b:Ad} {T:Nat} {M:Mc} {c wv:Value} {Z:Ex.Zs} {evs:List Ev}
theorem TS.init (f:nQ w V b 2 6 2 T M (fun _=>False)) (x:Ex.En) (h:Option Addr) (g:Nat):TS w (V.alloc (.cells (Ex.ec x h g).toArray 86)) b T M (.slice (some (ao V.heap.size)) 1 1) (.slice none 0 0) [(x,h,g)] [] where
  a:=f.below bq (fun k q=>by
    rcases q with q|q
    · simp[Value.ownBlock] at q
      subst q
      exact .inr ⟨aT,by simp⟩
    ·simp[Value.ownBlock] at q)
  l:=⟨rfl,.inr ⟨V.heap.size,1,_,rfl,f.jC.size,(MapKept.heap_alloc V _).1,aT,by decide,rfl,rfl⟩⟩
  e:=fK.nil _ _
theorem TS.AK {T':Nat} {M':Mc} (h:TS w V b T M c wv Z evs) {f:Nat} {g:Array Value} {R:Ending→World→Prop}
    (o: ∀j,ax V j b 2 6 2 T M→aB f g V fun e i=>R e i∧aD V i j b 2 6 2 T' M'):
    aB f g V fun e i=>R e i∧TS w i b T' M' c wv Z evs:=by
  refine(h.a.AK o).mono ?_
  rintro e i ⟨n,p,m⟩
  exact⟨n,p,aQ h.l (fun k q=>m k (.inl q)),aQ h.e (fun k q=>m k (.inr q))⟩
end
section
variable {w V e:World} {a:Ad} {T:Nat} {M:Mc} {b wv c d:Value} {Z:Ex.Zs} {evs l:List Ev}
theorem TS.addL (h:TS w V a T M b wv Z evs) {z:Ex.En×Option Addr×Nat} (f:e.ownsRow w.heap.size 86 10 c (Z.length+1) (Ex.iP Z++Ex.ec z.1 z.2.1 z.2.2)) (g:Grw V e b c) (i:0<w.heap.size):TS w e a T M c wv (Z++[z]) evs:=
  h.growL g (by rw[Ex.rv,Ex.ya,List.length_append];exact f) i
theorem TS.addE (h:TS w V a T M b wv Z evs) (f:e.ownsRow w.heap.size 80 6 d (evs.length+l.length) (bF evs++bF l)) (g:Grw V e wv d) (i:0<w.heap.size):TS w e a T M b d Z (evs++l):=
  h.growE g (by unfold fK;rw[pT,List.length_append];exact f) i
theorem new_src (x:Ex.En):SrX (V.alloc (.cells (Ex.ec x none 0).toArray 86)) (.slice (some (ao V.heap.size)) 1 1) 1 10 (Ex.ec x none 0):=
  ⟨_,1,rfl,rfl,Ex.Ax x none 0,fun _=>⟨_,rfl,Ex.rP V _ _⟩⟩
/-- So many entries were done. -/
def TJ (w V:World) (a:Ad) (b wv:Value) (n:Nat):Prop:= ∃Z T M evs,Z.length=n∧TS w V a T M b wv Z evs∧JT (Z.map (·.1)) T M evs∧ ∀z∈Z,Ex.Fit w z
theorem TJ.next {i:Nat} {j:Mc} {x:Ex.En} (h:TS w V a i j b wv (Z++[(x,none,0)]) evs) (g:JT (Z.map (·.1)++[x]) i j evs) (m: ∀z∈Z,Ex.Fit w z) (f:x.code=[]) {n:Nat} (k:Z.length=n):TJ w V a b wv (n+1):=by
  refine⟨_,_,_,_,by simp[k],h,by simpa using g,fun z hz=> ?_⟩
  rcases List.mem_append.1 hz with q|q
  ·exact m z q
  · obtain rfl:z=(x,none,0):=by simpa using q
    have hw:=(g.r x (by simp)).2
    exact⟨fun W _=>by rw[f];exact Ex.lY _ _,by simp[f],.inl (by simp[f]),hw⟩
end
/-- The program's cells. -/
def tsA:Array Value:= #[ab 2,ab 0,ab 1,ab 1,ab 3,ab 0,ab 5,ab 2,ab 4,ab 0,ab 9,ab 0]
theorem ts_cod {w:World} {b:Nat} (h:w.heap[b]? =some (.cells tsA 83 (0,0))):Ex.qe w (some (ao b)) tsC:=by
  have a: ∀(j:Nat) (u:Value),tsA[j]? =some u→w.cell? (af b j)=some u:=fun j u c=>by
    unfold World.cell?
    rw[h]
    exact c
  refine .inr ⟨b,0,rfl,(Array.getElem?_eq_some_iff.1 h).1,fun j d=> ?_⟩
  have e:j<6:=d
  match j,e with
  |0,_=>exact⟨a 0 _ rfl,a 1 _ rfl⟩
  |1,_=>exact⟨a 2 _ rfl,a 3 _ rfl⟩
  |2,_=>exact⟨a 4 _ rfl,a 5 _ rfl⟩
  |3,_=>exact⟨a 6 _ rfl,a 7 _ rfl⟩
  |4,_=>exact⟨a 8 _ rfl,a 9 _ rfl⟩
  |5,_=>exact⟨a 10 _ rfl,a 11 _ rfl⟩
def tsF:Array Value:= #[ab 2,ab 6,ab 2,ab 2,aj 3,aj 4]
theorem ts_W (w:World):aC w ((w.alloc (.cells tsF 30)).alloc (.cells tsA 83))∧(∀(i:Nat) (u:Value),tsF[i]? =some u→((w.alloc (.cells tsF 30)).alloc (.cells tsA 83)).cell? (af w.heap.size i)=some u)∧Ex.qe ((w.alloc (.cells tsF 30)).alloc (.cells tsA 83)) (some (ao (w.heap.size+1))) tsC:=by
  obtain⟨w1,a⟩: ∃w1,w.alloc (.cells tsF 30)=w1:=⟨_,rfl⟩
  obtain⟨w2,b⟩: ∃w2,w1.alloc (.cells tsA 83)=w2:=⟨_,rfl⟩
  rw[a,b]
  have g:aC w w1:=by rw[←a];exact bq
  have c:aC w1 w2:=by rw[←b];exact bq
  have d:w1.heap.size=w.heap.size+1:=by rw[←a];simp
  have f:w1.heap[w.heap.size]? =some (.cells tsF 30 (0,0)):=by rw[←a];exact(MapKept.heap_alloc w _).1
  refine⟨bt g c,fun i u e=> ?_,ts_cod ?_⟩
  · unfold World.cell?
    rw[c.block _ (by show w.heap.size<_;omega),f]
    exact e
  · rw[←b,←d]
    exact(MapKept.heap_alloc w1 _).1
theorem ts_N {w:World} (h:Gt.pv w):aB 11 #[.agg #[ab 2,ab 6,ab 2,ab 2,aj 3,aj 4]] w fun e t=> ∃ad,e= .returned (ak ad.m)∧nQ w t ad 2 6 2 0 (gz 2 6 2 3 4) (fun _=>False):=(MI 2 6 2 2 3 4 (by decide) (by decide) (by decide) (by decide) (by decide) (by decide) w h).mono (fun e t ⟨a,he,hA⟩=>⟨a,he,hA.k⟩)
theorem ts_R {w:World} {L:List Ex.En} {b:List Ev} {B:Nat} (ht:Gt.pv w) (k:Ex.gu L∧(Hg 2 6 2 2 3 4 L).ev=b∧wX L≤100) (h:L.length≤100): ∀V v U,U.ownsRow B 5 1 v (Ex.all L).length (Ex.dG (Ex.all L))→aC w U→aC U V→aB 25 #[.agg #[ab 2,ab 6,ab 2,ab 2,aj 3,aj 4],v] V fun e t=> ∃ea ec ra rc cn f,e=aS #[.agg (B6 (.slice ea b.length ec) (.slice ra L.length rc) cn f),ab 0]∧fK t V.heap.size (.slice ea b.length ec) b∧aC V t:=fun V v U F hb d=>by
  have g:(Ex.all L).length<100000:=by
    have:=Ex.DK L (fun x E=>(k.1 x E).1)
    omega
  refine(run_ts (by omega) (by have:=k.2.2;omega) (ht.below (bt hb d)) (fun Y hY=>Ex.zS Y _ v _ (Ex.gP F (bt d hY)) (Ex.Bt k.1) g) ⟨k.1,rfl⟩).mono ?_
  rintro e t ⟨s,er,cn,f,rfl,P,q,z⟩
  rw[k.2.1] at P
  obtain⟨ea,ec,rfl,_⟩:=P.cells
  obtain⟨ra,rc,rfl⟩:=Cb.aJ q
  rw[LV]
  exact⟨ea,ec,ra,rc,cn,f,rfl,P,z⟩
end Go.Proofs.YtnmhcgpnhlhcgaaGreatDoor

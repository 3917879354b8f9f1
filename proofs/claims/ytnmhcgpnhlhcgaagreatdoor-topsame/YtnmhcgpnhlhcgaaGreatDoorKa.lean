/- YtnmhcgpnhlhcgaaGreatDoorKa: of the texts O1 O2 O3 O4 O5 O6 O7 O8 O9 O10 O11 O12 O13 O14 O15 O16 O17 O18 O19 O20 O21 O22 O23 O24 O25 Mq Mk Q1 L1 J1 J2 J3 J4 J5 J6 J7 J8 W1 A1 A2 A3 A4 A5 A6 what is wanted. -/
import Derived.Test.YtnmhcgpnhlhcgaaGreatDoorK0
import Derived.Test.YtnmhcgpnhlhcgaaGreatDoorRows
import Derived.WalkKit
import Derived.Below
import Derived.WalkSpells
import Derived.WalkLawsBesides
import Derived.StillTactics
import Derived.RegionTactic
import Derived.RowKit3
import Derived.Laws.MakeOwn
import Derived.OwnWalk
import Derived.Deep.QuietTactic
import Derived.BigQuiet
import Derived.Laws.OwnMore
import Derived.Maps.AppendAt
import Derived.Deep.AppendLies
import Derived.Deep.RegionHeld3
import Derived.Deep.DrawnRows
import Derived.Lib.SmallJoins
import Derived.OneCell
import Derived.Laws.BytesArg
import Derived.ProofKit
import Derived.Deep.Slices
import Derived.Deep.Strs
import Derived.ChangeOld
import Derived.OpenShut
import Derived.Lib.EndianBits
import Derived.Defers
import Derived.Recover
import Derived.Laws.Pointers
import Derived.Laws.FloatArith
import Derived.Laws.MathBits
import Derived.Lib.BitFns
import Derived.Laws.Bits64b
import Derived.Laws.StructEq
import Derived.Laws.BitsAllLaws
import Derived.Test.YtnmhcgpnhlhcgaaGreatDoorChecked
import Derived.Laws.IdiomArrays
import Derived.WideShapes
import Derived.Carry
set_option maxHeartbeats 16000000
set_option maxRecDepth 100000
set_option linter.unusedVariables false
set_option linter.defProp false
set_option linter.unusedSimpArgs false
namespace Go.Proofs.YtnmhcgpnhlhcgaaGreatDoor.Ex
open Go.RowKit Go.Lib
def jB (k a b:Int) (n:Nat):MapEntry:={key:=ab k,val:= .agg #[ab a,ab b],born:=n}
def bL (n:Int):List MapEntry:=
 [jB 1 1 65536 0,jB 2 0 31 1,jB 3 0 31 2,jB 4 0 15 3,jB 5 1 65536 4,jB 6 0 0 5,jB 7 0 255 6,jB 8 0 (n-1) 7,jB 9 0 0 8]
def ta (k:Int): ∀(l:List MapEntry) (i:Nat),(∀e∈l,∃x,e.key=ab x/\x≠k)->Instr.findNow (.int .i64) (ab k) l i=some none
 |[],_,_=>rfl
 |e::l,i,h=>by
  obtain⟨x,b,c⟩:=h e q_
  have a:(k==x)=false:=y_
  simp[Instr.findNow,b,Instr.sameNow,a,ta k l (i+1) y_]
def gI (w:World) (l:List MapEntry) (c:Nat) (k:Int) (v:Value) (h: ∀e∈l,∃x,e.key=ab x/\x≠k):
  (Instr.mapUpdate 208 (.map (some w.heap.size)) (ab k) v).run Tryz.prog (w.alloc (.map l.toArray c))= .ok () (w.alloc (.map (l++[MapEntry.mk (ab k) v c]).toArray (c+1))):=by
 have b:=ta k l 0 h
 have a:(w.alloc (.map l.toArray c)).heap[w.heap.size]? =some (.map l.toArray c):=heap_alloc_new w _
 have f:=MapKept.run_checkKey (P:=Tryz.prog) (w:=w.alloc (.map l.toArray c)) (k:=ab k) Tryz.underlying81 (by simp[MapKept.IsKey]) false 9999
 have d:=MapKept.run_findKey (P:=Tryz.prog) (w:=w.alloc (.map l.toArray c)) Tryz.underlying81 b
 have g:Array.setIfInBounds (w.heap.push (.map l.toArray c)) w.heap.size (.map (l++[MapEntry.mk (ab k) v c]).toArray (c+1))=w.heap.push (.map (l++[MapEntry.mk (ab k) v c]).toArray (c+1)):=by
  grind
 simp[Instr.mapUpdate,run_underlying Tryz.underlying208,MapKept.run_getObj_map a,f,d,MapKept.run_setObj_map _ a,Result.andThen]
 show({w with heap:=Array.setIfInBounds (w.heap.push (.map l.toArray c)) w.heap.size (.map (l++[MapEntry.mk (ab k) v c]).toArray (c+1))}:World)=_
 simp_all
def ez (w:World) (n:Int) (k:Nat):World:=w.alloc (.map ((bL n).take k).toArray k)
def PO (w:World) (n:Int):(Instr.mapUpdate 208 (.map (some w.heap.size)) (ab 1) (.agg #[ab 1,ab 65536])).run Tryz.prog (ez w n 0)= .ok () (ez w n 1):=
 gI w ((bL n).take 0) 0 1 _ q_
def Pr (w:World) (n:Int):(Instr.mapUpdate 208 (.map (some w.heap.size)) (ab 2) (.agg #[ab 0,ab 31])).run Tryz.prog (ez w n 1)= .ok () (ez w n 2):=
 gI w ((bL n).take 1) 1 2 _ (by simp[bL,jB])
def GJ (w:World) (n:Int):(Instr.mapUpdate 208 (.map (some w.heap.size)) (ab 3) (.agg #[ab 0,ab 31])).run Tryz.prog (ez w n 2)= .ok () (ez w n 3):=
 gI w ((bL n).take 2) 2 3 _ (by simp[bL,jB])
def PW (w:World) (n:Int):(Instr.mapUpdate 208 (.map (some w.heap.size)) (ab 4) (.agg #[ab 0,ab 15])).run Tryz.prog (ez w n 3)= .ok () (ez w n 4):=
 gI w ((bL n).take 3) 3 4 _ (by simp[bL,jB])
def Pf (w:World) (n:Int):(Instr.mapUpdate 208 (.map (some w.heap.size)) (ab 5) (.agg #[ab 1,ab 65536])).run Tryz.prog (ez w n 4)= .ok () (ez w n 5):=
 gI w ((bL n).take 4) 4 5 _ (by simp[bL,jB])
def Pp (w:World) (n:Int):(Instr.mapUpdate 208 (.map (some w.heap.size)) (ab 6) (.agg #[ab 0,ab 0])).run Tryz.prog (ez w n 5)= .ok () (ez w n 6):=
 gI w ((bL n).take 5) 5 6 _ (by simp[bL,jB])
def Pj (w:World) (n:Int):(Instr.mapUpdate 208 (.map (some w.heap.size)) (ab 7) (.agg #[ab 0,ab 255])).run Tryz.prog (ez w n 6)= .ok () (ez w n 7):=
 gI w ((bL n).take 6) 6 7 _ (by simp[bL,jB])
def Pz (w:World) (n:Int):(Instr.mapUpdate 208 (.map (some w.heap.size)) (ab 8) (.agg #[ab 0,ab (n-1)])).run Tryz.prog (ez w n 7)= .ok () (ez w n 8):=
 gI w ((bL n).take 7) 7 8 _ (by simp[bL,jB])
def PV (w:World) (n:Int):(Instr.mapUpdate 208 (.map (some w.heap.size)) (ab 9) (.agg #[ab 0,ab 0])).run Tryz.prog (ez w n 8)= .ok () (ez w n 9):=
 gI w ((bL n).take 8) 8 9 _ (by simp[bL,jB])
def DY (w:World) (n:Int) (o:1<=n) (m:n<=64):
  aB 97 #[ab n] w fun e a=>e= .returned (.map (some w.heap.size))/\a=ez w n 9:=by
 have l:(Instr.makeMap 208 none).run Tryz.prog w= .ok (.map (some w.heap.size)) (ez w n 0):=rfl
 have k:=PO w n
 have j:=Pr w n
 have i:=GJ w n
 have h:=PW w n
 have g:=Pf w n
 have f:=Pp w n
 have d:=Pj w n
 have c:=Pz w n
 have b:=PV w n
 refine ge ?_
 go_wp2
 go_ret
 simp
def lo (a:Int):Int:=if a=1\/a=5 then 1 else 0
def hi (n a:Int):Int:=if a=1\/a=5 then 65536 else if a=2\/a=3 then 31 else if a=4 then 15 else if a=7 then 255 else if a=8 then n-1 else 0
def known (a:Int):Bool:=decide (1<=a/\a<=9)
def Da (w:World) (b:Nat) (n c:Int) (j:w.heap[b]? =some (.map (bL n).toArray 9)):
  (Instr.lookup 208 (.map (some b)) (ab c) true).run Tryz.prog w= .ok (.tuple #[.agg #[ab (lo c),ab (hi n c)],.bool (known c)]) w:=by
 have m:=MapKept.run_checkKey (P:=Tryz.prog) (w:=w) (k:=ab c) Tryz.underlying81 (by simp[MapKept.IsKey]) false 9999
 have hz:(zeroValue 211).run Tryz.prog w= .ok (.agg #[ab 0,ab 0]) w:=by rfl
 have d:(bL n).toArray.isEmpty=false:=rfl
 have g: ∃a,Instr.findNow (.int .i64) (ab c) (bL n) 0=some a/\((a=none/\known c=false/\lo c=0/\hi n c=0)\/ ∃i,a=some (i,.agg #[ab (lo c),ab (hi n c)])/\known c=true):=by
  by_cases h:1<=c/\c<=9
  ·have:c=1\/c=2\/c=3\/c=4\/c=5\/c=6\/c=7\/c=8\/c=9:=by omega
   rcases this with rfl|rfl|rfl|rfl|rfl|rfl|rfl|rfl|rfl<;>exact⟨_,rfl,.inr ⟨_,rfl,rfl⟩⟩
  ·refine⟨none,ta _ _ _ (fun e d=> ?_),.inl ⟨rfl,by simp[known];omega,by simp[lo];omega,?_⟩⟩
   ·simp only[bL,List.mem_cons,List.not_mem_nil,or_false] at d
    rcases d with rfl|rfl|rfl|rfl|rfl|rfl|rfl|rfl|rfl<;>exact⟨_,rfl,z_⟩
   ·unfold hi
    omega
 obtain⟨a,q,h⟩:=g
 have l:=MapKept.run_findKey (P:=Tryz.prog) (w:=w) Tryz.underlying81 q
 rcases h with ⟨rfl,f,p,o⟩|⟨i,rfl,f⟩
 ·simp[Instr.lookup,run_underlying Tryz.underlying208,MapKept.run_getObj_map j,d,m,l,hz,f,p,o,Result.andThen]
 ·simp[Instr.lookup,run_underlying Tryz.underlying208,MapKept.run_getObj_map j,d,m,l,f,Result.andThen]
def Gg (a b x:Int) (w:World):vQ 98 #[.agg #[ab a,ab b],ab x] w (.bool (decide (a<=x/\x<=b))):=by
 by_cases d:a<=x
 ·by_cases c:x<=b
  ·refine ge ?_
   go_wp2
   go_ret
   exact⟨by simp_all,bq⟩
  ·refine ge ?_
   go_wp2
   go_ret
   exact⟨by simp[c],bq⟩
 ·refine ge ?_
  go_wp2
  go_ret
  exact⟨by simp;omega,bq⟩
def lJ (w:World) (a:Option Addr) (c:Nat) (O R:Nat->Int):Prop:=
 c=0\/ ∃d b,a=some (af d b)/\d<w.heap.size/\ ∀j,j<c->w.cell? (af d (b+j*2))=some (ab (O j))/\w.cell? (af d (b+j*2+1))=some (ab (R j))
def lJ.below {w w':World} {a:Option Addr} {d:Nat} {O R:Nat->Int} (h:lJ w a d O R) (f:aC w w'):lJ w' a d O R:=by
 rcases h with h|⟨e,b,rfl,c,l⟩
 ·exact .inl h
 ·refine .inr ⟨e,b,rfl,i8 c f.size,fun j k=> ?_⟩
  obtain⟨i,g⟩:=l j k
  exact⟨(f.cell (p:=(af e (b+j*2))) c).trans i,(f.cell (p:=(af e (b+j*2+1))) c).trans g⟩
def uN (n b a:Int):Bool:=known b&&decide (lo b<=a/\a<=hi n b)
def vR (a:Nat) (O R:Nat->Int) (e b:Int):Prop:=
 ((a<1\/64<a)/\e=3/\b=0)\/
 (1<=a/\a<=64/\ ∃j:Nat,j<a/\(∀i,i<j->uN a (O i) (R i)=true)/\uN a (O j) (R j)=false/\e=3/\b=j)\/
 (1<=a/\a<=64/\(∀i,i<a->uN a (O i) (R i)=true)/\O (a-1)≠8/\O (a-1)≠9/\e=3/\b=((a-1:Nat):Int))\/
 (1<=a/\a<=64/\(∀i,i<a->uN a (O i) (R i)=true)/\(O (a-1)=8\/O (a-1)=9)/\e=0/\b=0)
theorem vR.one {b:Nat} {O R:Nat->Int} {e a t u:Int} (h:vR b O R e a) (w:vR b O R t u):t=e/\u=a:=by
 have y: ∀{j i:Nat},uN b (O j) (R j)=false->(∀k,k<i->uN b (O k) (R k)=true)->j<i->False:=by
  grind
 rcases h with ⟨f,d,c⟩|⟨f,d,j,c,p,o,n,v⟩|⟨f,d,c,p,o,n,v⟩|⟨f,d,c,p,o,n⟩<;>
 rcases w with ⟨m,l,g⟩|⟨m,l,i,g,s,r,q,x⟩|⟨m,l,g,s,r,q,x⟩|⟨m,l,g,s,r,q⟩<;>subst_vars<;>try omega
 ·grind
 all_goals first|exact(by grind)|grind
def pE (w:World) (a:Option Addr) (len I:Nat) (P:len<9223372036854775808) (O R:Nat->Int) (M:lJ w a len O R):
  aB 51 #[.slice a len I] w fun e w'=> ∃x y:Int,e=aS #[ab x,ab y]/\vR len O R x y/\aC w w':=by
 by_cases G:len<1
 ·have m:(len:Int)<1:=by omega
  refine ge ?_
  go_wp2
  go_ret2
  exact⟨_,_,rfl,.inl ⟨.inl G,rfl,rfl⟩,cj⟩
 by_cases F:64<len
 ·have m: ¬(len:Int)<1:=by omega
  have z:64<(len:Int):=z_
  refine ge ?_
  go_wp2
  go_ret2
  exact⟨_,_,rfl,.inl ⟨.inr F,rfl,rfl⟩,cj⟩
 have m: ¬(len:Int)<1:=z_
 have z: ¬64<(len:Int):=z_
 have V:=aa M
 have U:=aa (DY w len z_ z_)
 clear M
 refine ge ?_
 go_wp2_with (go_at_call 97;refine cH U.out fun C D=> ?_)
 have X:Hid (C.heap[w.heap.size]? =some (.map (bL len).toArray 9)):=by rw[D.out];exact heap_alloc_new w _
 have HL:Hid (aC w C):=by rw[D.out];exact bq
 have Z:C.heap.size=w.heap.size+1:=by rw[D.out];simp[ez]
 clear D U
 have Q:0<=(len:Int):=z_
 go_loopw [23] (fun i wr=> ∃(j:Nat),j<=len/\i=ab j/\(∀k,k<j->uN len (O k) (R k)=true)/\aC C wr) (fun i _=>len-(intOf i).toNat)
 case atStart=>exact⟨0,z_,rfl,fun k H=>by omega,cj⟩
 case round=>
  obtain⟨j,hj,rfl,f,b⟩:=hrel
  by_cases r:j<len
  ·have A:(j:Int)<len:=by omega
   rcases V.out with h0|⟨o,d,rfl,h,B⟩
   ·omega
   ·obtain⟨v,J⟩:=B j r
    have L:=(b.cell (p:=(af o (d+j*2))) y_).trans ((HL.out.cell (p:=(af o (d+j*2))) h).trans v)
    have y2:=(b.cell (p:=(af o (d+j*2+1))) y_).trans ((HL.out.cell (p:=(af o (d+j*2+1))) h).trans J)
    have c:=aa b
    have u:=aa f
    clear B v J b f
    have N:(wr.alloc (.cells #[ab (O j),ab (R j)] 83)).heap[w.heap.size]? =some (.map (bL len).toArray 9):=by
     rw[zU0 _ _ _ (by have:=c.out.size;omega),c.out.block _ z_]
     exact X.out
    have H:=Da _ _ _ (O j) N
    clear N
    cases g:known (O j) with
    |false=>
     rw[g] at H
     go_wp2
     go_ret2
     exact⟨_,_,rfl,.inr (.inl ⟨z_,z_,j,r,u.out,by simp[uN,g],rfl,rfl⟩),HL.out.trans (((c.out.mono z_).alloc (by have:=c.out.size;omega) _).alloc (by have:=c.out.size;simp;omega) _)⟩
    |true=>
     rw[g] at H
     have E:=aa (fun W=>Gg (lo (O j)) (hi len (O j)) (R j) W)
     cases l:decide (lo (O j)<=R j/\R j<=hi len (O j)) with
     |false=>
      rw[l] at E
      go_wp2_with (go_at_call 98;refine cH (E.out _) fun Y t=> ?_)
      go_ret2
      exact⟨_,_,rfl,.inr (.inl ⟨z_,z_,j,r,u.out,by simp only[uN,g,l,Bool.and_false],rfl,rfl⟩),(HL.out.trans (((c.out.mono z_).alloc (by have:=c.out.size;omega) _).alloc (by have:=c.out.size;simp;omega) _)).trans (t.out.mono (by have:=c.out.size;simp;omega))⟩
     |true=>
      rw[l] at E
      go_wp2_with (go_at_call 98;refine cH (E.out _) fun Y t=> ?_)
      go_roundw
      case rel=>
       refine⟨j+1,z_,by go_num,fun k a0=> ?_,(((c.out).alloc (by have:=c.out.size;omega) _).alloc (by have:=c.out.size;simp;omega) _).trans (t.out.mono (by have:=c.out.size;simp;omega))⟩
       by_cases q:k=j
       ·subst q;simp only[uN,g,l,Bool.and_self]
       ·exact u.out k z_
      case measure=>simp[intOf];omega
  ·have A: ¬(j:Int)<len:=by omega
   obtain rfl:j=len:=z_
   rcases V.out with h0|⟨o,d,rfl,h,B⟩
   ·omega
   obtain⟨v,_⟩:=B (j-1) z_
   have L:=(b.cell (p:=(af o (d+(j-1)*2))) y_).trans ((HL.out.cell (p:=(af o (d+(j-1)*2))) h).trans v)
   have c:=aa b
   have u:=aa f
   clear B v b f
   obtain⟨n,rfl⟩: ∃n,j=n+1:=⟨j-1,z_⟩
   have e1:((n+1:Nat):Int)-1=(n:Nat):=z_
   have e2:(n:Int)<((n+1:Nat):Int):=z_
   simp only[Nat.add_sub_cancel] at L
   have s:=aa<|HL.out.trans (c.out.mono z_)
   clear HL c X
   by_cases T:O n=8
   ·go_wp2
    go_ret2
    exact⟨_,_,rfl,.inr (.inr (.inr ⟨z_,z_,u.out,.inl T,rfl,rfl⟩)),s.out⟩
   ·by_cases S:O n=9
    ·go_wp2
     go_ret2
     exact⟨_,_,rfl,.inr (.inr (.inr ⟨z_,z_,u.out,.inr S,rfl,rfl⟩)),s.out⟩
    ·have b8:(O n !=8)=true:=by grind
     have b9:(O n !=9)=true:=y_
     go_wp2
     go_ret2
     exact⟨_,_,rfl,.inr (.inr (.inl ⟨z_,z_,u.out,T,S,rfl,by go_num⟩)),s.out⟩
def cf (w:World) (a:Option Addr) (b d:Nat) (c:b<9223372036854775808) (O R:Nat->Int) (h:lJ w a b O R):
  aB 153 #[.slice a b d] w fun e w'=> ∃x y:Int,e= .returned (.bool (x==0))/\vR b O R x y/\aC w w':=by
 have i:=aa (pE w a b d c O R h)
 refine ge ?_
 go_wp2_with (go_at_call 51;refine(i.out).mono ?_;rintro e l ⟨x,y,rfl,f,g⟩;have k:=aa f;have j:=aa g;clear f g)
 go_ret
 exact⟨x,y,rfl,k.out,j.out⟩
theorem gJ:(Tryz.prog.info? 5).map (fun i=>(i.zero,i.size,i.bytes))=some (some (aA 0),1,1):=by rfl
def cell_one_new (w:World) (v:Value) (t:TypeId): ∀j u,[v][j]? =some u->(w.alloc (.cells #[v] t)).cell? (((ao w.heap.size):Addr).add j)=some u:=by
 intro j u h
 match j,h with
 |0,h=>
  simp at h
  subst h
  have e:(((ao w.heap.size):Addr).add 0)=(ao w.heap.size):=rfl
  simp_all
def bo (n:Nat):Value:=aA ((n%256:Nat):Int)
def KO (w:World) (a:Nat) (v:Value) (n:Nat) (f:List Value) (x:n<100000) (h:w.ownsRow a 5 1 v n f) (y:a<=w.heap.size) (N:Nat) (z:N<256):
  aB 154 #[v,ab N,ab 1] w fun e o=> ∃g,e= .returned g/\o.ownsRow a 5 1 g (n+1) (f++[aA N])/\w.grownBy o v.ownBlock:=by
 obtain⟨r,hi,l,k,j⟩:=info_parts gJ
 have t:=aa h
 clear h
 refine ge ?_
 go_wp2
 go_loopw [0,7] (fun s i wr=>(s=v/\i=ab 0/\wr=w)\/(i=ab (-1)/\wr.ownsRow a 5 1 s (n+1) (f++[aA N])/\w.grownBy wr v.ownBlock)) (fun _ i _=>(intOf i+1).toNat)
 case atStart=>simp
 case round=>
  rcases hrel with ⟨rfl,rfl,rfl⟩|⟨rfl,p,q⟩
  ·go_wp2_with (at_builtin;go_loud (refine wpList_append_own _ rfl _ _ 51 rfl a 5 r (aA 0) 1 1 q_ hi l k j rfl x_ _ _ _ rfl (World.ownsRow.alloc t.out _) (ao wr.heap.size) 1 1 [aA N] rfl rfl (cell_one_new _ _ _) (by simp[Value.oneCell']) (by unfold maxLen;omega) z_ (by simp;omega) ?_);intro g u b c _;have d:=aa b;have m:=aa c;clear b c)
   exact⟨.inr ⟨rfl,d.out,(World.grownBy_alloc _ _ _).trans m.out⟩,x_⟩
  ·have d:=aa p
   have m:=aa q
   clear p q
   go_wp2
   go_ret
   exact⟨_,rfl,d.out,m.out⟩
def OQ (w:World) (c:Nat) (v:Value) (n:Nat) (m:List Value) (F:n<100000) (h:w.ownsRow c 5 1 v n m) (y:c<=w.heap.size) (N:Nat) (G:N<16777216):
  aB 154 #[v,ab N,ab 3] w fun e w'=> ∃u,e= .returned u/\w'.ownsRow c 5 1 u (n+3) (m++[bo (N/65536),bo (N/256),bo N])/\Below c w w':=by
 obtain⟨A,hi,q,p,o⟩:=info_parts gJ
 have E:=aa h
 clear h
 refine ge ?_
 go_wp2
 go_loopw [0,7] (fun s i wr=> ∃(k:Nat) (t:List Value),((k=0/\i=ab 2/\t=m)\/(k=1/\i=ab 1/\t=m++[bo (N/65536)])\/(k=2/\i=ab 0/\t=m++[bo (N/65536),bo (N/256)])\/(k=3/\i=ab (-1)/\t=m++[bo (N/65536),bo (N/256),bo N]))/\wr.ownsRow c 5 1 s (n+k) t/\Below c w wr/\c<=wr.heap.size) (fun _ i _=>(intOf i+1).toNat)
 case atStart=>exact⟨0,m,q_,E.out,cj,y⟩
 case round=>
  obtain⟨k,t,r,C,D,g⟩:=hrel
  have f:=aa C
  have z:=aa D
  clear C D E
  rcases r with ⟨rfl,rfl,rfl⟩|⟨rfl,rfl,rfl⟩|⟨rfl,rfl,rfl⟩|⟨rfl,rfl,rfl⟩
  ·go_wp2_with (at_builtin;refine wpList_append_own _ rfl _ _ 51 rfl c 5 A (aA 0) 1 1 q_ hi q p o rfl x_ _ _ _ rfl (World.ownsRow.alloc f.out _) (ao wr.heap.size) 1 1 [_] rfl rfl (cell_one_new _ _ _) (by simp[Value.oneCell']) (by unfold maxLen;omega) z_ (by simp;omega) ?_;intro u B a b _;have j:=aa a;have l:=aa ((z.out.alloc g _).grown b (zY0 g q_) (fun k r=>(f.out.lt k r).1));clear a b)
   have x:Value.int .u8 ((N:Int)/65536)=bo (N/65536):=by unfold bo;grind
   have d:=j.out
   rw[x] at d
   exact⟨⟨1,_,q_,d,l.out,zY0 y l.out.size⟩,x_⟩
  ·go_wp2_with (at_builtin;refine wpList_append_own _ rfl _ _ 51 rfl c 5 A (aA 0) 1 1 q_ hi q p o rfl x_ _ _ _ rfl (World.ownsRow.alloc f.out _) (ao wr.heap.size) 1 1 [_] rfl rfl (cell_one_new _ _ _) (by simp[Value.oneCell']) (by unfold maxLen;omega) z_ (by simp;omega) ?_;intro u B a b _;have j:=aa a;have l:=aa ((z.out.alloc g _).grown b (zY0 g q_) (fun k r=>(f.out.lt k r).1));clear a b)
   have x:Value.int .u8 ((N:Int)/256%256)=bo (N/256):=by rfl
   have d:=j.out
   rw[x,List.append_assoc] at d
   exact⟨⟨2,_,q_,d,l.out,zY0 y l.out.size⟩,x_⟩
  ·go_wp2_with (at_builtin;refine wpList_append_own _ rfl _ _ 51 rfl c 5 A (aA 0) 1 1 q_ hi q p o rfl x_ _ _ _ rfl (World.ownsRow.alloc f.out _) (ao wr.heap.size) 1 1 [_] rfl rfl (cell_one_new _ _ _) (by simp[Value.oneCell']) (by unfold maxLen;omega) z_ (by simp;omega) ?_;intro u B a b _;have j:=aa a;have l:=aa ((z.out.alloc g _).grown b (zY0 g q_) (fun k r=>(f.out.lt k r).1));clear a b)
   have x:Value.int .u8 ((N:Int)%256)=bo N:=by rfl
   have d:=j.out
   rw[x,List.append_assoc] at d
   exact⟨⟨3,_,q_,d,l.out,zY0 y l.out.size⟩,x_⟩
  ·go_wp2
   go_ret
   exact⟨_,rfl,f.out,z.out⟩
def enc (a:Nat) (O R:Nat->Int):Nat->List Value
 |0=>[aA a]
 |k+1=>enc a O R k++[aA (O k)]++[bo ((R k).toNat/65536),bo ((R k).toNat/256),bo (R k).toNat]
def qU {n a x:Int} (b:n<=64) (h:uN n a x=true):1<=a/\a<=9/\0<=x/\x<=65536:=by
 simp only[uN,known,Bool.and_eq_true,decide_eq_true_eq] at h
 grind[Ex.lo,Ex.hi]
def vR.zero {a:Nat} {O R:Nat->Int} {y:Int} (h:vR a O R 0 y):1<=a/\a<=64/\(∀i,i<a->uN a (O i) (R i)=true)/\(O (a-1)=8\/O (a-1)=9)/\y=0:=by
 rcases h with ⟨_,h,_⟩|⟨_,_,_,_,_,_,h,_⟩|⟨_,_,_,_,_,h,_⟩|⟨f,e,d,c,_,b⟩
 ·omega
 ·omega
 ·omega
 grind
theorem vR.three {a:Nat} {O R:Nat->Int} {x y:Int} (h:vR a O R x y) (b:x≠0):x=3:=by
 rcases h with ⟨_,h,_⟩|⟨_,_,_,_,_,_,h,_⟩|⟨_,_,_,_,_,h,_⟩|⟨g,f,e,d,c,_⟩
 ·exact h
 ·exact h
 ·exact h
 ·omega
def Rt (a:Nat) (O R:Nat->Int):Prop:= ∃y,vR a O R 0 y
def iQ (w:World) (a:Option Addr) (b d:Nat) (c:b<9223372036854775808) (O R:Nat->Int) (g:lJ w a b O R) (f:Rt b O R):
  vQ 153 #[.slice a b d] w (.bool true):=
 (cf w a b d c O R g).mono fun e i ⟨x,y,j,k,l⟩=>by
  obtain⟨h,m⟩:=f
  grind[Ex.vR.one]
def mi (w:World) (a:Option Addr) (b d:Nat) (c:b<9223372036854775808) (O R:Nat->Int) (h:lJ w a b O R) (g: ¬Rt b O R):
  aB 153 #[.slice a b d] w fun e f=>e= .returned (.bool false)/\aC w f/\ ∃y,vR b O R 3 y:=
 (cf w a b d c O R h).mono fun e f ⟨x,y,k,i,l⟩=>by
  have j:x≠0:=fun q=>g ⟨y,q▸i⟩
  grind[Ex.vR.three]
def xE (w:World) (a:Option Addr) (len E:Nat) (t:len<9223372036854775808) (O R:Nat->Int) (M:lJ w a len O R) (l:Rt len O R):
  aB 111 #[.slice a len E] w fun e w'=> ∃v:Value,e=aS #[v,ab 0]/\w'.ownsRow w.heap.size 5 1 v (1+4*len) (enc len O R len)/\aC w w':=by
 have HP:=aa M
 have HC:=aa (iQ w a len E t O R M l)
 obtain⟨y0,h⟩:=l
 obtain⟨a2,a1,f,_,_⟩:=h.zero
 have HA:=aa f
 clear M h f
 have Z:=aa (fun (H:World) (J:w.heap.size<=H.heap.size)=>KO H w.heap.size (.slice none 0 0) 0 [] z_ (World.ownsRow_nil _ _ _ _) J len z_)
 refine ge ?_
 go_wp2_with (first
  |(go_at_call 153;refine cH HC.out fun H HL=> ?_)
  |(go_at_call 154;refine(Z.out _ HL.out.size).mono ?_;rintro e d ⟨G,rfl,q,B⟩;have HO:=aa q;have Q:=aa (HL.out.grown B HL.out.size (fun k x=>by cases x));clear q B))
 clear HC Z
 go_loopw [4,15] (fun s i wr=> ∃(j:Nat),j<=len/\i=ab j/\wr.ownsRow w.heap.size 5 1 s (1+4*j) (enc len O R j)/\aC w wr) (fun _ i _=>len-(intOf i).toNat)
 case atStart=>exact⟨0,z_,rfl,HO.out,Q.out⟩
 case round=>
  obtain⟨j,hj,rfl,c,b⟩:=hrel
  by_cases z:j<len
  ·have y:(j:Int)<len:=by omega
   obtain⟨b1,b2,b3,b4⟩:=qU z_ (HA.out j z)
   obtain⟨o,q⟩: ∃o:Nat,O j=(o:Int):=⟨(O j).toNat,z_⟩
   obtain⟨r,l⟩: ∃r:Nat,R j=(r:Int):=⟨(R j).toNat,z_⟩
   rcases HP.out with h0|⟨U,g,rfl,u,V⟩
   ·omega
   ·obtain⟨T,S⟩:=V j z
    have y1:=(b.cell (p:=(af U (g+j*2))) u).trans T
    have y2:=(b.cell (p:=(af U (g+j*2+1))) u).trans S
    have HE:Hid (enc len O R (j+1)=enc len O R j++[aA o]++[bo (r/65536),bo (r/256),bo r]):=by
     show enc len O R (j+1)=_
     grind[Ex.enc]
    rw[q] at y1
    rw[l] at y2
    have N:o<256:=z_
    have L:r<16777216:=z_
    have I:=b.size
    have Y:=aa c
    have HB:=aa b
    have X:=aa (KO (wr.alloc (.cells #[ab o,ab r] 83)) w.heap.size _ _ _ z_ (c.alloc _) (by simp;omega) o N)
    have HN:Hid (∀d,(wr.alloc (.cells #[ab o,ab r] 83)).grownBy d (Value.ownBlock u4)->d.cell? (af wr.heap.size 1)=some (ab r)/\aC w d):=by
     intro d B
     refine⟨?_,(b.alloc I _).grown B (by simp;omega) (fun k x=>(c.lt k x).1)⟩
     have a0:=fun k (x:Value.ownBlock u4=some k)=>(c.lt k x).2
     have hb:=B.block wr.heap.size q_ y_
     rw[i5 (w:=wr.alloc (.cells #[ab o,ab r] 83)) hb]
     simp
    have W:=aa (fun (d:World) (G:Value) (hh:d.ownsRow w.heap.size 5 1 G (1+4*j+1) (enc len O R j++[aA o])) (J:w.heap.size<=d.heap.size)=>OQ d w.heap.size G _ _ z_ hh J r L)
    clear c b V T S q l b1 b2 b3 b4
    go_wp2_with (first
     |(go_at_call 154;refine(X.out).mono ?_;rintro e d ⟨G,rfl,n,A⟩;have P:=aa n;obtain⟨yr,D⟩:=HN.out _ A;have F:=aa D;clear n A D X HN)
     |(go_at_call 154;refine(W.out _ _ P.out F.out.size).mono ?_;rintro e w3 ⟨v3,rfl,m,C⟩;have a3:=aa m;have a4:=aa (F.out.trans C);clear m C W))
    trace_state
    go_roundw
    case rel=>
     grind[RowKit.Hid.out]
    case measure=>simp[intOf];omega
  ·have y: ¬(j:Int)<len:=by omega
   obtain rfl:j=len:=z_
   have Y:=aa c
   have HB:=aa b
   clear c b
   go_wp2
   go_ret2
   exact⟨_,rfl,Y.out,HB.out⟩
end Go.Proofs.YtnmhcgpnhlhcgaaGreatDoor.Ex
namespace Go.Proofs.YtnmhcgpnhlhcgaaGreatDoor.Ex
open Go.RowKit Go.Lib Go.Deep Go.ChangeShapes Go.WideShapes Go.ChangeAt
def Ki (w:World) (a:Option Addr) (c:Nat) (X:Nat->Nat):Prop:=
 c=0\/ ∃d b,a=some (af d b)/\d<w.heap.size/\ ∀j,j<c->w.cell? (af d (b+j))=some (aA (X j:Int))/\X j<256
section
variable {H:Type} {enc:TypeId×Value->H} {w:World} {b:Nat} {a:Nat->Bool} {c:Bool}
end
end Go.Proofs.YtnmhcgpnhlhcgaaGreatDoor.Ex
namespace Go.Proofs.YtnmhcgpnhlhcgaaGreatDoor.Ex
open Go.RowKit Go.Lib
def below_drewN {B:Nat} {w a:World} (h:Below B w a) (q:Nat):Below B w (a.drewN q):=⟨h.os,h.tape,h.output,h.size,h.block⟩
def fO (w:World) (a:Option Addr) (b d:Nat) (c:b<9223372036854775808) (O R:Nat->Int) (f:lJ w a b O R) (x y:Int) (h:vR b O R x y):
  vQ 51 #[.slice a b d] w (.tuple #[ab x,ab y]):=
 (pE w a b d c O R f).mono fun e j ⟨i,g,k,l,m⟩=>by
  grind[Ex.vR.one]
def nG (f:Nat->Bool): ∀n,(∀i,i<n->f i=true)\/ ∃j,j<n/\(∀i,i<j->f i=true)/\f j=false
 |0=>q_
 |n+1=>by
  rcases nG f n with h|⟨j,c,b,a⟩
  ·grind
  grind
def r7 (a:Nat) (O R:Nat->Int): ∃x y,vR a O R x y:=by
 by_cases e:a<1\/64<a
 ·exact⟨3,0,.inl ⟨e,rfl,rfl⟩⟩
 ·rcases nG (fun i=>uN a (O i) (R i)) a with c|⟨j,d,c,b⟩
  ·by_cases b:O (a-1)=8\/O (a-1)=9
   ·exact⟨0,0,.inr (.inr (.inr ⟨z_,z_,c,b,rfl,rfl⟩))⟩
   ·exact⟨3,_,.inr (.inr (.inl ⟨z_,z_,c,fun q=>b (.inl q),fun q=>b (.inr q),rfl,rfl⟩))⟩
  ·exact⟨3,_,.inr (.inl ⟨z_,z_,j,d,c,b,rfl,rfl⟩)⟩
def aP (O R:Nat->Int):Nat->List Value
 |0=>[]
 |k+1=>aP O R k++[ab (O k),ab (R k)]
theorem fJ (O R:Nat->Int): ∀k,(aP O R k).length=k*2
 |0=>rfl
 |k+1=>by simp[aP,fJ O R k];omega
def fG (O R:Nat->Int): ∀(k i:Nat),i<k->(aP O R k)[i*2]? =some (ab (O i))/\(aP O R k)[i*2+1]? =some (ab (R i))
 |k+1,i,h=>by
  by_cases q:i=k
  ·grind[Ex.aP,Ex.fJ]
  ·have:=fG O R k i z_
   simp only[aP]
   grind
def Jd {w:World} {c:Nat} {v:Value} {k:Nat} {O R:Nat->Int} (h:w.ownsRow c 83 2 v (k+1) (aP O R (k+1))): ∃a b,v= .slice a (k+1) b/\lJ w a (k+1) O R:=by
 rcases h.2 with ⟨_,p⟩|⟨g,b,m,rfl,_,l,_,_,_,e⟩
 ·omega
 ·refine⟨_,b,rfl,.inr ⟨g,0,rfl,(zW0.1 l).1,fun j f=> ?_⟩⟩
  obtain⟨o,n⟩:=fG O R (k+1) j f
  have hz: ∀i u,i<(k+1)*2->(aP O R (k+1))[i]? =some u->w.cell? (af g (0+i))=some u:=by
   intro i u hi d
   rw[<-e,List.getElem?_take_of_lt hi] at d
   unfold World.cell?
   grind
  grind
theorem zh:(Tryz.prog.info? 83).map (fun i=>(i.zero,i.size,i.bytes))=some (some (.agg #[ab 0,ab 0]),2,16):=by rfl
theorem OZ (y x:Nat) (a:y<16777216) (b:x<256):bits .or .i64 ((y:Int)*256) (x:Int)=y*256+(x:Int):=by
 refine bits_join .i64 63 x_ (fun n d c=>by simp[IntKind.wrap,IntKind.bits,IntKind.signed];omega) 8 _ _ z_ z_ z_ z_ z_ z_
def lC (w:World) (d:Nat) (a:Option Addr) (b c size:Nat) (i:w.cell? (ao d)=some (.slice a b c)) (h:b<size) (g:size<=3):
  aB 183 #[ak d,ab size] w fun e f=>e= .panicked [{v:= .iface 298 (.agg #[]),recovered:=false}]/\f=w:=by
 have j:(b:Int)<size:=z_
 refine ge ?_
 go_wp2
 simp[bodyPost]
def zQ (w:World) (g j d b c:Nat) (x:Nat) (r:x<256) (t:w.cell? (ao g)=some (.slice (some (af j d)) b c)) (v:w.frozen? (ao g)=false) (u:1<=b) (y:b<=c) (m:c<9223372036854775808)
  (z:w.cell? (af j d)=some (aA x)):
  aB 183 #[ak g,ab 1] w fun e n=>e= .returned (ab x)/\ ∃a,n=w.setCell (ao g) (.slice (some a) (b-1) (c-1))/\(1<b->a=(af j (d+1))):=by
 have p: ¬(b:Int)<1:=z_
 have o:bits .or .i64 0 (x:Int)=x:=by grind[Ex.OZ]
 have q:1<=(c:Int):=z_
 refine ge ?_
 go_wp2
 go_loopw [5,24] (fun s i wr=>wr=w/\((s=ab 0/\i=ab 0)\/(s=ab x/\i=ab 1))) (fun _ i _=>1-(intOf i).toNat)
 case atStart=>simp
 case round=>
  obtain⟨rfl,f⟩:=hrel
  rcases f with ⟨rfl,rfl⟩|⟨rfl,rfl⟩
  ·go_wp2
   go_roundw
   case rel=>simp
   decide
  ·by_cases k:c=1
   ·subst k
    obtain rfl:b=1:=z_
    go_wp2
    go_ret
    exact⟨rfl,_,rfl,fun h=>by omega⟩
   ·have l: ¬(c:Int)=1:=by omega
    go_wp2
    go_ret
    exact⟨rfl,_,rfl,fun _=>rfl⟩
def I9 (w:World) (l k f b c:Nat) (x0 d g:Nat) (x:x0<256) (n:d<256) (m:g<256) (A:w.cell? (ao l)=some (.slice (some (af k f)) b c)) (C:w.frozen? (ao l)=false) (B:3<=b) (D:b<=c) (u:c<9223372036854775808)
  (G:w.cell? (af k f)=some (aA x0)) (F:w.cell? (af k (f+1))=some (aA d)) (E:w.cell? (af k (f+2))=some (aA g)):
  aB 183 #[ak l,ab 3] w fun e v=>e= .returned (ab ((x0*65536+d*256+g:Nat):Int))/\ ∃a,v=w.setCell (ao l) (.slice (some a) (b-3) (c-3))/\(3<b->a=(af k (f+3))):=by
 have y: ¬(b:Int)<3:=z_
 have r:bits .or .i64 0 (x0:Int)=x0:=by grind[Ex.OZ]
 have q:=OZ x0 d z_ n
 have p:bits .or .i64 (((x0:Int)*256+(d:Int))*256) (g:Int)=((x0:Int)*256+(d:Int))*256+(g:Int):=by
  have:=OZ (x0*256+d) g z_ m
  grind
 have z:3<=(c:Int):=z_
 refine ge ?_
 go_wp2
 go_loopw [5,24] (fun s i wr=>wr=w/\((s=ab 0/\i=ab 0)\/(s=ab x0/\i=ab 1)\/(s=ab ((x0:Int)*256+(d:Int))/\i=ab 2)\/(s=ab (((x0:Int)*256+(d:Int))*256+(g:Int))/\i=ab 3))) (fun _ i _=>3-(intOf i).toNat)
 case atStart=>simp
 case round=>
  obtain⟨rfl,j⟩:=hrel
  rcases j with ⟨rfl,rfl⟩|⟨rfl,rfl⟩|⟨rfl,rfl⟩|⟨rfl,rfl⟩
  ·go_wp2
   go_roundw
   case rel=>simp
   decide
  ·go_wp2
   go_roundw
   case rel=>simp
   decide
  ·go_wp2
   go_roundw
   case rel=>simp
   decide
  ·by_cases o:c=3
   ·subst o
    obtain rfl:b=3:=z_
    go_wp2
    go_ret
    refine⟨?_,_,rfl,fun h=>by omega⟩
    show Ending.returned (ab (((x0:Int)*256+(d:Int))*256+(g:Int)))=_
    grind
   ·have t: ¬(c:Int)=3:=by omega
    go_wp2
    go_ret
    refine⟨?_,_,rfl,fun _=>rfl⟩
    show Ending.returned (ab (((x0:Int)*256+(d:Int))*256+(g:Int)))=_
    grind
def L6 (w:World) (c:Nat) (a:Option Addr) (b:Nat) (d:w.cell? (ao c)=some (.slice a 0 b)):
  vS 184 #[ak c] w (.tuple #[]):=by
 refine ge ?_
 go_wp2
 go_end0
 simp
def DB (w:World) (d:Nat) (a:Option Addr) (b c:Nat) (i:0<b) (h:w.cell? (ao d)=some (.slice a b c)):
  aB 184 #[ak d] w fun e f=>e= .panicked [{v:= .iface 298 (.agg #[]),recovered:=false}]/\f=w:=by
 have g:0<(b:Int):=z_
 refine ge ?_
 go_wp2
 simp[bodyPost]
def eI (p:Addr) (x:Value) (b:List PanicEntry) (w:World) (h:w.cell? p=some x) (hz:w.frozen? p=false) (q: ∃a l c,x= .slice a l c):
  CallsD Tryz.prog 182 #[.pointer (some p)] (.panicking ({v:= .iface 298 (.agg #[]),recovered:=false}::b)) w fun e k j=>
   e=aS #[]/\k= .panicking ({v:= .iface 298 (.agg #[]),recovered:=true}::b)/\j=(w.alloc (.cells #[] 298)).setCell p (.slice none 0 0):=by
 refine callsD_of_wpS Tryz.func182 rfl fun s t n=> ?_
 apply wpS_seq
 apply wpS_region
 simp[wpOpsS,go_sem,recoverD,n,Tryz.ntmps182,Exit.thenS]
 obtain⟨a,l,c,rfl⟩:=q
 refine wpS_of_wp ?_
 have g:(#[Value.pointer (some p)]++(Array.replicate 9 undef).setIfInBounds 3 (.iface 298 (.agg #[])))= #[.pointer (some p),undef,undef,undef,(.iface 298 (.agg #[])),undef,undef,undef,undef,undef]:=rfl
 rw[g]
 have o:(Instr.typeAssert (.iface 298 (.agg #[])) 20 298 true).run Tryz.prog w= .ok (.tuple #[.agg #[],.bool true]) w:=by rfl
 have i:=i4 w.heap.size w
 have f:=i.alloc aT (.cells #[] 298)
 have d:=i7 w _ h
 have r:=(f.cell (p:=p) d).trans h
 have m:(w.alloc (.cells #[] 298)).frozen? p=false:=by
  rw[<-hz]
  unfold World.frozen?
  rw[zU0 _ _ _ d]
 clear i f g
 go_wp2
 cases s
 simp_all [bodyPostS,results,Tryz.results182]
def zE (p:Addr) (w:World):
  CallsD Tryz.prog 182 #[.pointer (some p)] .returning w fun e b a=>e=aS #[]/\b= .returning/\a=w:=by
 refine callsD_of_wpS Tryz.func182 rfl fun f g c=> ?_
 apply wpS_seq
 apply wpS_region
 simp[wpOpsS,go_sem,recoverD,c,Tryz.ntmps182,Exit.thenS]
 refine wpS_of_wp ?_
 have d:(#[Value.pointer (some p)]++(Array.replicate 9 undef).setIfInBounds 3 .nilIface)= #[.pointer (some p),undef,undef,undef,.nilIface,undef,undef,undef,undef,undef]:=rfl
 rw[d]
 go_wp2
 cases f
 simp_all [bodyPostS,results,Tryz.results182]
def mL (X:Nat->Nat) (k:Nat):Int:=(X (1+4*k):Int)
def jx (X:Nat->Nat) (k:Nat):Int:=((X (2+4*k)*65536+X (3+4*k)*256+X (4+4*k):Nat):Int)
def jM (w:World) (X:Nat->Nat) (a:Nat) (v:Value) (b:World):Prop:=
 aC w b/\((a=1+4*X 0/\b.ownsRow w.heap.size 83 2 v (X 0) (aP (mL X) (jx X) (X 0)))\/(a≠1+4*X 0/\v= .slice none 0 0))
def jL (w W:World):World:=(W.alloc (.cells #[] 298)).setCell (ao w.heap.size) (.slice none 0 0)
def iE {w W:World} {v:Value} (b:W.cell? (ao w.heap.size)=some v):(jL w W).cell? (ao w.heap.size)=some (.slice none 0 0):=by
 unfold jL
 have a:=i7 W _ b
 exact World.cell?_setCell_same _ _ _ ((((i4 W.heap.size W).alloc aT (.cells #[] 298)).cell (p:=(ao w.heap.size)) a).trans b)
theorem iA {w W:World} {X:Nat->Nat} {a:Nat} (c:aC w W) (e:a≠1+4*X 0):jM w X a (.slice none 0 0) (jL w W):=by
 refine⟨?_,y_⟩
 have b:=c.alloc c.size (.cells #[] 298)
 unfold jL
 exact⟨b.os,b.tape,b.output,by simpa using b.size,fun k d=>(zZ0 _ _ _ _ y_).trans (b.block k d)⟩
def sN (w:World) (a:Option Addr) (b:Nat) (X:Nat->Nat):
  aB 155 #[.slice a 0 b] w fun e w'=> ∃v,e= .returned v/\jM w X 0 v w':=by
 have k: ∀(i:Fn) (first b:Array Value) (w:World),(Instr.makeFunc i first b).run Tryz.prog w= .ok (.func i first b) w:=fun _ _ _ _=>rfl
 have p:Hid (aC w ((w.alloc (.cells #[.slice none 0 0] 35)).alloc (.cells #[.slice a 0 b] 301))):=bq.alloc q_ _
 have h:((w.alloc (.cells #[.slice none 0 0] 35)).alloc (.cells #[.slice a 0 b] 301)).cell? (ao w.heap.size)=some (.slice none 0 0):=q_
 have g:((w.alloc (.cells #[.slice none 0 0] 35)).alloc (.cells #[.slice a 0 b] 301)).cell? (ao (w.heap.size+1))=some (.slice a 0 b):=q_
 have hz:((w.alloc (.cells #[.slice none 0 0] 35)).alloc (.cells #[.slice a 0 b] 301)).frozen? (ao w.heap.size)=false:=q_
 have m:=aa (lC _ _ _ _ _ 1 g z_ z_)
 have j:=aa h
 have l:=aa hz
 clear h g hz
 go_enter_defers Tryz.func155,Tryz.ntmps155
 go_wp2_with (go_at_call 183;refine cS m.out ?_)
 refine leaves_cons (f:=182) (args:= #[ak w.heap.size]) q_ (by rfl) ?_
 refine(eI (ao w.heap.size) _ [] _ j.out l.out y_).mono ?_
 rintro e n c ⟨rfl,rfl,hw⟩
 replace hw:c=jL w _:=hw
 have d:c.cell? (ao w.heap.size)=some (.slice none 0 0):=by rw[hw];exact iE j.out
 have o:=aa hw
 clear hw
 simp[Leaves,settle,results,Tryz.results155,go_sem,d]
 grind[RowKit.Hid.out,Ex.iA]
structure St (w wr:World) (ra:Addr) (rl rc:Nat) (v:Value):Prop where
 jC:aC w wr
 size:w.heap.size+2<=wr.heap.size
 rest:wr.cell? (ao (w.heap.size+1))=some (.slice (some ra) rl rc)
 rfz:wr.frozen? (ao (w.heap.size+1))=false
 pc:wr.cell? (ao w.heap.size)=some v
 yS:wr.frozen? (ao w.heap.size)=false
def nB {B:Nat} {w wr:World} (h:Below B w wr) (a:Addr) (u:Value) (c:B<=a.block):Below B w (wr.setCell a u):=
 ⟨h.os,h.tape,h.output,by simpa using h.size,fun k b=>(zZ0 _ _ _ _ z_).trans (h.block k b)⟩
theorem aR (w:World) (a b:Addr) (u:Value):(w.setCell a u).frozen? b=w.frozen? b:=q_
def St.pa {w wr:World} {f:Addr} {d e:Nat} {v:Value} (h:St w wr f d e v) (c:Addr) (a b:Nat):St w (wr.setCell (ao (w.heap.size+1)) (.slice (some c) a b)) c a b v:=
 ⟨nB h.jC _ _ q_,by simpa using h.size,World.cell?_setCell_same _ _ _ h.rest,by rw[aR];exact h.rfz,
  (World.cell?_setCell_other _ _ _ _ q_).trans h.pc,by rw[aR];exact h.yS⟩
def St.Ol {w wr:World} {c:Addr} {a b:Nat} {v:Value} (h:St w wr c a b v) (v':Value):St w (wr.setCell (ao w.heap.size) v') c a b v':=
 ⟨nB h.jC _ _ q_,by simpa using h.size,(World.cell?_setCell_other _ _ _ _ q_).trans h.rest,by rw[aR];exact h.rfz,
  World.cell?_setCell_same _ _ _ h.pc,by rw[aR];exact h.yS⟩
def St.drew {w wr:World} {c:Addr} {a b:Nat} {v:Value} (h:St w wr c a b v):St w wr.drew c a b v:=
 ⟨⟨h.jC.os,h.jC.tape,h.jC.output,h.jC.size,h.jC.block⟩,h.size,h.rest,h.rfz,h.pc,h.yS⟩
def St.alloc {w wr:World} {c:Addr} {a b:Nat} {v:Value} (h:St w wr c a b v) (o:Obj):St w (wr.alloc o) c a b v:=by
 have g:=h.size
 have e:=(i4 wr.heap.size wr).alloc aT o
 have d: ∀k,k<wr.heap.size->(wr.alloc o).frozen? (ao k)=wr.frozen? (ao k):=fun k f=>by
  unfold World.frozen?
  rw[zU0 _ _ _ f]
 exact⟨h.jC.alloc z_ o,by simp;omega,(e.cell (p:=(ao (w.heap.size+1))) y_).trans h.rest,(d _ z_).trans h.rfz,
  (e.cell (p:=(ao w.heap.size)) y_).trans h.pc,(d _ z_).trans h.yS⟩
def St.grown {w wr w':World} {d:Addr} {b c:Nat} {v:Value} {a:Option Nat} (h:St w wr d b c v) (e:wr.grownBy w' a) (l: ∀k,a=some k->w.heap.size+2<=k):St w w' d b c v:=by
 have j:=h.size
 have i:=fun k (i:k<w.heap.size+2)=>e.block k z_ y_
 have f: ∀k,k<w.heap.size+2->w'.frozen? (ao k)=wr.frozen? (ao k):=fun k g=>by
  unfold World.frozen?
  grind
 exact⟨h.jC.grown e z_ y_,y_,(i5 y_).trans h.rest,(f _ z_).trans h.rfz,
  (i5 y_).trans h.pc,(f _ z_).trans h.yS⟩
def lV {w:World} {b:Nat} {e:TypeId} {c:Nat} {v:Value} {n:Nat} {xs:List Value} (h:w.ownsRow b e c v n xs) (a:Addr) (u:Value) (m:a.block<b):(w.setCell a u).ownsRow b e c v n xs:=by
 refine⟨h.1,?_⟩
 rcases h.2 with l|⟨g,j,i,rfl,k,f,d⟩
 ·grind
 ·exact .inr ⟨g,j,i,rfl,k,(zZ0 _ _ _ _ z_).trans f,d⟩
def AL {w:World} {c a:Nat} {e:TypeId} {b:Nat} {v:Value} {n:Nat} {xs:List Value} (h:w.ownsRow c e b v n xs) (l:a<=c):w.ownsRow a e b v n xs:=by
 refine⟨h.1,?_⟩
 rcases h.2 with k|⟨g,i,f,rfl,j,d⟩
 ·grind
 ·exact .inr ⟨g,i,f,rfl,z_,d⟩
def dv {P:Program} (w:World) {r:Array Oper} {o:Oper} {a:Act} {K:Act->World->Prop} {Q:Exit->Act->World->Prop} {E:Prop} (F:o.guard=none) (s x:Operand) (t:TypeId)
  (N:o.op= .call {callee:= .builtin .append,args:= #[s,x],argTypes:= #[t,t]})
  (f:Nat) (e:TypeId) (i:TypeInfo) (z:Value) (b bytes:Nat) (L:P.underlying t=some (.slice e)) (hi:P.info? e=some i) (hz:i.zero=some z)
  (k:i.size=b) (G:i.bytes=bytes) (C:z.cells.size=b) (D:0<b)
  (v:Value) (n:Nat) (B:List Value) (M:a.eval s=v) (y:w.ownsRow f e b v n B)
  (I:Addr) (m c:Nat) (d:List Value) (J:a.eval x= .slice (some I) m c) (O:d.length=m*b) (l: ∀j u,d[j]? =some u->w.cell? (I.add j)=some u) (T: ∀u∈d,u.oneCell'=true)
  (H:n+m<=maxLen) (g:(n+m)*bytes<=140737488355328) (p:f<=w.heap.size)
  (h: ∀A q,q.ownsRow f e b A (n+m) (B++d)->w.grownBy q v.ownBlock->K (a.put o.dst A) q):
  if Region.wanted o (yielded r a.tmps)=true then Oper.wp P o a w K Q else E:=by
 have hw:Region.wanted o (yielded r a.tmps)=true:=by simp[Region.wanted,F]
 rw[if_pos hw]
 exact wp_append_own w s x t N f e i z b bytes L hi hz k G C D v n B M y I m c d J O l T H g p fun A q S R _=>h A q S R
def cell_two_new (w:World) (x y:Value) (t:TypeId): ∀j u,[x,y][j]? =some u->(w.alloc (.cells #[x,y] t)).cell? (((ao w.heap.size):Addr).add j)=some u:=by
 intro j u b
 have a:((ao w.heap.size):Addr).add j=(af w.heap.size j):=by unfold Addr.add;grind
 simp_all
def kE {w:World} {d:Nat} {e:TypeId} {b:Nat} {v:Value} {n:Nat} {f:List Value} (h:w.ownsRow d e b v n f): ∃a l c,v= .slice a l c:=by
 rcases h.2 with ⟨rfl,_⟩|⟨g,j,i,rfl,_⟩
 ·simp
 simp
def Rd (w wr:World) (X:Nat->Nat) (h b a c k:Nat):Prop:=
 1+4*k<=a/\ ∃g f d e,St w wr g (a-1-4*k) (c-1-4*k) (.slice f d e)/\(0<a-1-4*k->g=(af h (b+1+4*k)))/\wr.ownsRow (w.heap.size+2) 83 2 (.slice f d e) k (aP (mL X) (jx X) k)
def B9 (w:World) (g a b c:Nat) (X:Nat->Nat) (t:g<w.heap.size) (hl:1<=b) (hc:b<=c) (Y:c<9223372036854775808)
  (hx: ∀j,j<b->w.cell? (af g (a+j))=some (aA (X j:Int))/\X j<256):
  aB 155 #[.slice (some (af g a)) b c] w fun e w'=> ∃v,e= .returned v/\jM w X b v w':=by
 have d1: ∀(fn:Fn) (first c:Array Value) (w:World),(Instr.makeFunc fn first c).run Tryz.prog w= .ok (.func fn first c) w:=fun _ _ _ _=>rfl
 have I:aC w ((w.alloc (.cells #[.slice none 0 0] 35)).alloc (.cells #[.slice (some (af g a)) b c] 301)):=bq.alloc q_ _
 have C:St w ((w.alloc (.cells #[.slice none 0 0] 35)).alloc (.cells #[.slice (some (af g a)) b c] 301)) (af g a) b c (.slice none 0 0):=
  ⟨I,q_,q_,q_,q_,q_⟩
 have hX:=aa hx
 have D:=hx 0 z_
 have HN:=aa (zQ _ (w.heap.size+1) g a b c (X 0) D.2 C.rest C.rfz hl hc Y ((I.cell (p:=(af g a)) t).trans D.1))
 have c6:=D.2
 have a5:=aa C
 clear hx D I C
 go_enter_defers Tryz.func155,Tryz.ntmps155
 go_wp2_with (go_at_call 183;refine(HN.out).mono ?_;rintro e w1 ⟨rfl,a1,hw,a0⟩;have HR:Hid (Rd w w1 X g a b c 0):=(by refine⟨z_,a1,none,0,0,?_,fun q=>a0 z_,World.ownsRow_nil _ _ _ _⟩;rw[hw];exact a5.out.pa a1 _ _);clear hw a0 HN)
 clear a5
 go_loopw [11] (fun i wr=> ∃(k:Nat),k<=X 0/\i=ab k/\Rd w wr X g a b c k) (fun i _=>X 0-(intOf i).toNat)
 case atStart=>exact⟨0,z_,rfl,HR.out⟩
 case round=>
  obtain⟨k,hk,rfl,d3,ra,r,n,o,l,A,F⟩:=hrel
  have d:=aa l
  have HO:=aa F
  have b8:=aa A
  clear l F A HR
  by_cases d2:k<X 0
  ·have U:(k:Int)<(X 0:Int):=by omega
   by_cases hL:b-1-4*k<1
   ·have M:=aa (lC wr _ _ _ _ 1 d.out.rest hL z_)
    go_wp2_with (go_at_call 183;refine cS M.out ?_)
    refine leaves_cons (f:=182) (args:= #[ak w.heap.size]) q_ (by rfl) ?_
    refine(eI (ao w.heap.size) _ [] _ d.out.pc d.out.yS ⟨_,_,_,rfl⟩).mono ?_
    rintro e u' h ⟨rfl,rfl,hw⟩
    replace hw:h=jL w _:=hw
    have m:h.cell? (ao w.heap.size)=some (.slice none 0 0):=by rw[hw];exact iE d.out.pc
    have HW:=aa hw
    clear hw
    simp[Leaves,settle,results,Tryz.results155,go_sem,m]
    rw[HW.out]
    exact iA d.out.jC z_
   ·have A:=b8.out z_
    subst A
    have l:=d.out
    obtain⟨z1,b0⟩:=hX.out (1+4*k) z_
    have y1:wr.cell? (af g (a+1+4*k))=some (aA (X (1+4*k):Int)):=by
     rw[show a+1+4*k=a+(1+4*k) by omega]
     exact(l.jC.cell (p:=(af g (a+(1+4*k)))) t).trans z1
    have E:=aa (zQ wr (w.heap.size+1) g (a+1+4*k) (b-1-4*k) (c-1-4*k) (X (1+4*k)) b0 l.rest l.rfz z_ z_ z_ y1)
    clear y1 z1 l
    by_cases b6:b-1-4*k-1<3
    ·go_wp2_with (go_at_call 183;refine(E.out).mono ?_;rintro e O ⟨rfl,a2,hw,_⟩;have x:Hid (St w O a2 (b-1-4*k-1) (c-1-4*k-1) (.slice r n o)):=(by rw[hw];exact d.out.pa _ _ _);clear hw E)
     clear d HO
     have b5:=x.out.drew.pc
     have u:=aa x.out.drew
     have M:=aa (lC O.drew _ _ _ _ 3 u.out.rest b6 z_)
     refine wp_region_held_drew (S:=fun _=>True) (by rfl) trivial (fun hHeld=> ?_)
     refine st ?_
     repeat' first
      |refine dn ?_
      |refine tk ?_
      |refine rd ?_
      |exact oA
      |refine oE ?_
      |refine oC ?_ ?_
      | (refine dU 3 (fun K s=> ?_)
         go_simp
         refine cS M.out ?_
         dsimp only
         refine leaves_cons (f:=182) (args:= #[ak w.heap.size]) q_ (by rfl) ?_
         refine(eI (ao w.heap.size) _ [] _ u.out.pc u.out.yS ⟨_,_,_,rfl⟩).mono ?_
         rintro e u' h ⟨rfl,rfl,hw⟩
         replace hw:h=jL w _:=hw
         have m:h.cell? (ao w.heap.size)=some (.slice none 0 0):=by rw[hw];exact iE u.out.pc
         have HW:=aa hw
         clear hw
         simp[Leaves,settle,results,Tryz.results155,go_sem,m]
         rw[HW.out]
         exact iA u.out.jC z_)
      | (refine dU _ (fun K s=> ?_)
         go_simp
         refine s.out _ _ ?_ (fun hHeld=> ?_)
         ·trivial
         clear s K
         try simp only[cV])
    ·obtain⟨z2,a9⟩:=hX.out (2+4*k) z_
     obtain⟨z3,a8⟩:=hX.out (3+4*k) z_
     obtain⟨z4,a7⟩:=hX.out (4+4*k) z_
     have c0:Hid (∀W,St w W (af g (a+2+4*k)) (b-1-4*k-1) (c-1-4*k-1) (.slice r n o)->W.ownsRow (w.heap.size+2) 83 2 (.slice r n o) k (aP (mL X) (jx X) k)->
       aB 183 #[ak (w.heap.size+1),ab 3] W fun e W'=>e= .returned (ab (jx X k))/\ ∃J,(0<b-1-4*(k+1)->J=(af g (a+1+4*(k+1))))/\St w W' J (b-1-4*(k+1)) (c-1-4*(k+1)) (.slice r n o)/\W'.ownsRow (w.heap.size+2) 83 2 (.slice r n o) k (aP (mL X) (jx X) k)):=by
      intro W N hO
      have c2:=(N.jC.cell (p:=(af g (a+(2+4*k)))) t).trans z2
      have c3:=(N.jC.cell (p:=(af g (a+(3+4*k)))) t).trans z3
      have c4:=(N.jC.cell (p:=(af g (a+(4+4*k)))) t).trans z4
      rw[show a+(2+4*k)=a+2+4*k by omega] at c2
      rw[show a+(3+4*k)=a+2+4*k+1 by omega] at c3
      rw[show a+(4+4*k)=a+2+4*k+2 by omega] at c4
      refine(I9 W (w.heap.size+1) g (a+2+4*k) _ _ _ _ _ a9 a8 a7 N.rest N.rfz z_ z_ z_ c2 c3 c4).mono ?_
      rintro e W' ⟨rfl,J,rfl,B⟩
      refine⟨rfl,J,fun q=>(B z_).trans (by simp;omega),?_,lV hO _ _ q_⟩
      rw[show b-1-4*(k+1)=b-1-4*k-1-3 by omega,show c-1-4*(k+1)=c-1-4*k-1-3 by omega]
      exact N.pa J _ _
     clear z2 z3 z4
     go_wp2_with (go_at_call 183;refine(E.out).mono ?_;rintro e O ⟨rfl,a2,hw,Z⟩;have x:Hid (St w O (af g (a+2+4*k)) (b-1-4*k-1) (c-1-4*k-1) (.slice r n o)):=(by have q:=Z z_;rw[show a+1+4*k+1=a+2+4*k by omega] at q;subst q;rw[hw];exact d.out.pa _ _ _);have b9:Hid (O.ownsRow (w.heap.size+2) 83 2 (.slice r n o) k (aP (mL X) (jx X) k)):=(by rw[hw];exact lV HO.out _ _ q_);clear hw Z E)
     clear d HO
     obtain⟨i0,hi,b3,b2,b1⟩:=info_parts zh
     have b5:=x.out.drew.pc
     refine wp_region_noPanic ?_
     refine wp_region_held_drew (S:=fun _=>True) (by rfl) trivial (fun hHeld=> ?_)
     refine st ?_
     repeat' first
      |refine dn ?_
      |refine tk ?_
      |refine rd ?_
      |exact oA
      |refine oE ?_
      |refine oC ?_ ?_
      | (refine dU 3 (fun K s=> ?_)
         go_simp
         refine(c0.out _ x.out.drew b9.out).mono ?_
         rintro e w3 ⟨rfl,J,B,z,T⟩
         have c5:=aa B
         have a4:=aa z
         have a6:=aa T
         have d0:=z.pc
         have c9:=(z.alloc (.cells #[ab (X (1+4*k):Int),ab (jx X k)] 83)).pc
         clear B z T
         dsimp only
         refine s.out _ _ ?_ (fun hHeld=> ?_)
         ·trivial
         clear s K
         try simp only[cV])
      | (refine dU 6 (fun K s=> ?_)
         refine dv _ (by rfl) _ _ _ (by rfl) (w.heap.size+2) 83 i0 (.agg #[ab 0,ab 0]) 2 16 Tryz.underlying35 hi b3 b2 b1 rfl z_ (.slice r n o) k _ (by rfl) (World.ownsRow.alloc a6.out _) (ao w3.heap.size) 1 1 [ab (X (1+4*k):Int),ab (jx X k)] (by rfl) rfl (cell_two_new _ _ _ _) (by simp[Value.oneCell']) (by unfold maxLen;omega) z_ (by have:=a4.out.size;simp;omega) ?_
         intro v1 w4 H V
         obtain⟨R,P,Q,rfl⟩:=kE H
         have y:=(a4.out.alloc (.cells #[ab (X (1+4*k):Int),ab (jx X k)] 83)).grown V (fun q hq=>(a6.out.lt q hq).1)
         have c8:=y.pc
         have d4:=y.yS
         have b7:Hid (Rd w (w4.setCell (ao w.heap.size) (.slice R P Q)) X g a b c (k+1)):=⟨z_,J,R,P,Q,y.Ol _,c5.out,lV H _ _ q_⟩
         clear H V y
         refine s.out _ _ ?_ (fun hHeld=> ?_)
         ·trivial
         clear s K
         try simp only[cV])
      | (refine dU _ (fun K s=> ?_)
         go_simp
         refine s.out _ _ ?_ (fun hHeld=> ?_)
         ·trivial
         clear s K
         try simp only[cV])
     all_goals
      refine⟨?_⟩
      refine NoPanic.normal ?_
      go_wp2
      go_roundw
      case rel=>exact⟨k+1,z_,by go_num,b7.out⟩
      case measure=>simp[intOf];omega
  ·have U: ¬(k:Int)<(X 0:Int):=by omega
   obtain rfl:k=X 0:=z_
   by_cases hL:0<b-1-4*X 0
   ·have c1:=aa (DB wr _ _ _ _ hL d.out.rest)
    go_wp2_with (go_at_call 184;refine cS c1.out ?_)
    refine leaves_cons (f:=182) (args:= #[ak w.heap.size]) q_ (by rfl) ?_
    refine(eI (ao w.heap.size) _ [] _ d.out.pc d.out.yS ⟨_,_,_,rfl⟩).mono ?_
    rintro e u' h ⟨rfl,rfl,hw⟩
    replace hw:h=jL w _:=hw
    have m:h.cell? (ao w.heap.size)=some (.slice none 0 0):=by rw[hw];exact iE d.out.pc
    have HW:=aa hw
    clear hw
    simp[Leaves,settle,results,Tryz.results155,go_sem,m]
    rw[HW.out]
    exact iA d.out.jC z_
   ·have G:=d.out.rest
    rw[show b-1-4*X 0=0 by omega] at G
    have HE:=aa (L6 wr _ _ _ G)
    have b4:=d.out.pc
    have c7:=d.out.yS
    have L:Hid (jM w X b (.slice r n o) (wr.setCell (ao w.heap.size) (.slice r n o))):=
     ⟨(d.out.Ol _).jC,.inl ⟨z_,AL (lV HO.out _ _ q_) z_⟩⟩
    clear G
    go_wp2_with (go_at_call 184;refine cS HE.out ?_)
    refine leaves_cons (f:=182) (args:= #[ak w.heap.size]) q_ (by rfl) ?_
    refine(zE (ao w.heap.size) _).mono ?_
    rintro e u' h ⟨rfl,rfl,rfl⟩
    have m:(wr.setCell (ao w.heap.size) (.slice r n o)).cell? (ao w.heap.size)=some (.slice r n o):=World.cell?_setCell_same _ _ _ b4
    simp[Leaves,settle,results,Tryz.results155,go_sem,m]
    exact L.out
def ph (w:World) (a:Option Addr) (b c:Nat) (X:Nat->Nat) (k:Ki w a b X) (j:b<=c) (d:c<9223372036854775808):
  aB 155 #[.slice a b c] w fun e w'=> ∃v,e= .returned v/\jM w X b v w':=by
 rcases k with rfl|⟨h,f,rfl,g,i⟩
 ·exact sN w a c X
 ·by_cases l:b=0
  ·subst l
   exact sN w _ c X
  ·exact B9 w h f b c X g z_ j d i
def IV (O R:Nat->Int): ¬Rt 0 O R:=fun ⟨y,h⟩=>by
 have:=h.zero.1
 omega
def xJ (w:World) (a:Option Addr) (b c:Nat) (X:Nat->Nat) (d:Ki w a b X) (l:b<=c) (g:c<9223372036854775808) (f:b≠1+4*X 0):
  vQ 113 #[.slice a b c] w (.tuple #[.slice none 0 0,ab 3]):=by
 have m:=aa (ph w a b c X d l g)
 have n:=aa (fun i=>mi i none 0 0 z_ (fun _=>0) (fun _=>0) (.inl rfl) (IV _ _))
 have p:=aa f
 clear d f
 refine ge ?_
 go_wp2_with (first
  |(go_at_call 155;refine(m.out).mono ?_;rintro e i ⟨v,rfl,d,k⟩;obtain rfl:v= .slice none 0 0:=(by grind[RowKit.Hid.out]);have j:=aa d;clear d k)
  |(go_at_call 153;refine(n.out _).mono ?_;rintro e o ⟨rfl,d,_⟩;have h:=aa (j.out.trans (d.mono j.out.size));clear d))
 go_ret2
 exact⟨rfl,h.out⟩
def dG (a:List Nat):List Value:=a.map fun (x:Nat)=>aA x
def Hq {w:World} {c:Nat} {v:Value} {a:List Nat} (h:w.ownsRow c 5 1 v a.length (dG a)) (p:0<a.length) (o: ∀y∈a,y<256):
  ∃g b,v= .slice (some (ao g)) a.length b/\a.length<=b/\b<=maxLen/\c<=g/\g<w.heap.size/\ ∀j,j<a.length->w.cell? (af g (0+j))=some (aA ((a.getD j 0:Nat):Int))/\a.getD j 0<256:=by
 rcases h.2 with ⟨_,q⟩|⟨g,b,e,rfl,k,d,f,i,n,l⟩
 ·omega
 ·refine⟨g,b,rfl,f,i,k,(zW0.1 d).1,fun j m=> ?_⟩
  have hz:(e.toList.take (a.length*1))[j]? =some (aA ((a.getD j 0:Nat):Int)):=by
   grind[Ex.dG]
  rw[List.getElem?_take_of_lt z_] at hz
  refine⟨?_,?_⟩
  ·unfold World.cell?
   grind
  simp_all
def j9 {w:World} {c:Nat} {v:Value} {k:Nat} {O R:Nat->Int} (h:w.ownsRow c 83 2 v k (aP O R k)): ∃a b,v= .slice a k b/\lJ w a k O R:=by
 cases k with
 |zero=>
  rcases h.2 with ⟨rfl,_⟩|⟨g,b,d,rfl,_⟩
  ·exact⟨_,_,rfl,.inl rfl⟩
  ·exact⟨_,_,rfl,.inl rfl⟩
 |succ k=>exact Jd h
def Mx (w:World) (a:Option Addr) (b d:Nat) (X:Nat->Nat) (c:Ki w a b X) (x:b<=d) (i:d<9223372036854775808) (B:X 0<256) (p:b=1+4*X 0) (o:Rt (X 0) (mL X) (jx X)):
  aB 113 #[.slice a b d] w fun e w'=> ∃r j,e=aS #[.slice r (X 0) j,ab 0]/\lJ w' r (X 0) (mL X) (jx X)/\aC w w':=by
 have y:=aa (ph w a b d X c x i)
 have z:=aa (fun l q f u=>iQ l q (X 0) f z_ (mL X) (jx X) u o)
 have C:=aa p
 clear c p o
 refine ge ?_
 go_wp2_with (first
  |(go_at_call 155;refine(y.out).mono ?_;rintro e l ⟨v,rfl,c,t⟩;have g:l.ownsRow w.heap.size 83 2 v (X 0) (aP (mL X) (jx X) (X 0)):=(by grind[RowKit.Hid.out]);obtain⟨q,f,rfl,h⟩:=j9 g;have k:=aa h;have s:=aa c;clear c t g h)
  |(go_at_call 153;refine(z.out _ _ _ k.out).mono ?_;rintro e A ⟨rfl,c⟩;have n:=aa (s.out.trans (c.mono s.out.size));have m:=aa (k.out.below c);clear c))
 go_ret2
 exact⟨_,_,rfl,m.out,n.out⟩
def uz (w:World) (a:Option Addr) (b c:Nat) (X:Nat->Nat) (d:Ki w a b X) (s:b<=c) (i:c<9223372036854775808) (y:X 0<256) (n:b=1+4*X 0) (m: ¬Rt (X 0) (mL X) (jx X)):
  vQ 113 #[.slice a b c] w (.tuple #[.slice none 0 0,ab 3]):=by
 have t:=aa (ph w a b c X d s i)
 have u:=aa (fun j o f r=>mi j o (X 0) f z_ (mL X) (jx X) r m)
 have z:=aa n
 clear d n m
 refine ge ?_
 go_wp2_with (first
  |(go_at_call 155;refine(t.out).mono ?_;rintro e j ⟨v,rfl,d,q⟩;have g:j.ownsRow w.heap.size 83 2 v (X 0) (aP (mL X) (jx X) (X 0)):=(by grind[RowKit.Hid.out]);obtain⟨o,f,rfl,h⟩:=j9 g;have k:=aa h;have p:=aa d;clear d q g h)
  |(go_at_call 153;refine(u.out _ _ _ k.out).mono ?_;rintro e x ⟨rfl,d,_⟩;have l:=aa (p.out.trans (d.mono p.out.size));clear d))
 go_ret2
 exact⟨rfl,l.out⟩
def gH (a:Nat) (O R:Nat->Int):Nat->List Nat
 |0=>[a]
 |k+1=>gH a O R k++[(O k).toNat,(R k).toNat/65536%256,(R k).toNat/256%256,(R k).toNat%256]
theorem cP (a:Nat) (O R:Nat->Int): ∀k,(gH a O R k).length=1+4*k
 |0=>rfl
 |k+1=>by simp[gH,cP a O R k];omega
def rh {a:Nat} {O R:Nat->Int}: ∀k,(∀i,i<k->0<=O i)->enc a O R k=dG (gH a O R k)
 |0,_=>rfl
 |k+1,h=>by
  have b:=h k z_
  simp only[enc,gH,rh k (fun i hi=>h i z_),bo,dG,List.map_append,List.map_cons,List.map_nil,List.append_assoc,List.cons_append,List.nil_append,Int.toNat_of_nonneg b]
def qh (a:Nat) (O R:Nat->Int): ∀k,(gH a O R k).getD 0 0=a
 |0=>rfl
 |k+1=>by
  have h:=qh a O R k
  grind[Ex.gH,Ex.cP]
theorem Be (a:Nat) (O R:Nat->Int): ∀k i,i<k->(gH a O R k).getD (1+4*i) 0=(O i).toNat/\(gH a O R k).getD (2+4*i) 0=(R i).toNat/65536%256/\(gH a O R k).getD (3+4*i) 0=(R i).toNat/256%256/\(gH a O R k).getD (4+4*i) 0=(R i).toNat%256
 |k+1,i,h=>by
  by_cases q:i=k
  ·subst q
   simp only[gH]
   unfold List.getD
   rw[v9 (by rw[cP];omega),v9 (by rw[cP];omega),v9 (by rw[cP];omega),v9 (by rw[cP];omega),cP]
   grind
  ·have:=Be a O R k i z_
   grind[Ex.gH,Ex.cP]
def qw {a:Nat} {O R:Nat->Int} (c:a<=64): ∀k,(∀i,i<k->O i<=9)-> ∀y∈gH a O R k,y<256
 |0,_=>by simp[gH];omega
 |k+1,h=>by
  intro y b
  have d:=h k z_
  simp only[gH,List.mem_append,List.mem_cons,List.not_mem_nil,or_false] at b
  rcases b with b|rfl|rfl|rfl|rfl
  ·exact qw c k y_ y b
  ·omega
  ·omega
  ·omega
  ·omega
def Ll {a:Nat} {O R:Nat->Int} {i:Nat} (h:i<a) (b:0<=O i) (d:0<=R i) (c:R i<=65536):mL (fun j=>(gH a O R a).getD j 0) i=O i/\jx (fun j=>(gH a O R a).getD j 0) i=R i:=by
 grind[Ex.Be,Ex.mL,Ex.jx]
def EW {X:Nat->Nat}: ∀k,(∀j,j<1+4*k->X j<256)->enc (X 0) (mL X) (jx X) k=dG ((List.range (1+4*k)).map X)
 |0,_=>by rfl
 |k+1,h=>by
  have e:=EW k (fun j d=>h j z_)
  have i:=h (2+4*k) z_
  have g:=h (3+4*k) z_
  have f:=h (4+4*k) z_
  have c:bo ((jx X k).toNat/65536)=Value.int .u8 (X (2+4*k):Int):=by simp only[bo,jx,Int.toNat_natCast];grind
  have b:bo ((jx X k).toNat/256)=Value.int .u8 (X (3+4*k):Int):=by simp only[bo,jx,Int.toNat_natCast];grind
  have a:bo (jx X k).toNat=Value.int .u8 (X (4+4*k):Int):=by simp only[bo,jx,Int.toNat_natCast];grind
  rw[show 1+4*(k+1)=(1+4*k)+4 by omega,List.range_add]
  simp only[enc,e,c,b,a,mL,dG,List.map_append,List.append_assoc]
  congr 1
  simp only[show List.range 4=[0,1,2,3] from rfl,List.map_cons,List.map_nil,List.cons_append,List.nil_append]
  grind
def gP {w w':World} {b:Nat} {e:TypeId} {a:Nat} {v:Value} {n:Nat} {xs:List Value} (h:w.ownsRow b e a v n xs) (k:aC w w'):w'.ownsRow b e a v n xs:=by
 refine⟨h.1,?_⟩
 rcases h.2 with l|⟨g,j,i,rfl,f,d,c⟩
 ·grind
 ·exact .inr ⟨g,j,i,rfl,f,(k.block g (zW0.1 d).1).trans d,c⟩
def pA {w i:World} {b:Nat} {e:TypeId} {a:Nat} {v:Value} {n:Nat} {xs:List Value} (h:w.ownsRow b e a v n xs) (m:i.heap=w.heap):i.ownsRow b e a v n xs:=by
 refine⟨h.1,?_⟩
 rcases h.2 with l|⟨g,f,d,rfl,k,j,c⟩
 ·grind
 ·exact .inr ⟨g,f,d,rfl,k,y_,c⟩
def byteCells (X:Nat->Nat) (a:Nat):List Value:=((List.range a).map fun j=>(X j:Int)).map (Value.int .u8)
def Pd {w:World} {d:Nat} {v:Value} {b:Nat} {X:Nat->Nat} (h:w.ownsRow d 5 1 v b (byteCells X b)) (l: ∀j,j<b->X j<256): ∃a c,v= .slice a b c/\b<=c/\c<=maxLen/\Ki w a b X:=by
 rcases h.2 with ⟨rfl,rfl⟩|⟨g,c,m,rfl,p,e,i,k,o,n⟩
 ·exact⟨none,0,rfl,z_,z_,.inl rfl⟩
 ·refine⟨_,c,rfl,i,k,.inr ⟨g,0,rfl,(zW0.1 e).1,fun j f=>⟨?_,l j f⟩⟩⟩
  rw[Nat.zero_add,h.cellAt j z_]
  simp[byteCells,f]
def FL (w:World) (t:TypeId):(w.alloc (.cells #[] t)).ownsRow w.heap.size t 1 (.slice (some (ao w.heap.size)) 0 0) 0 []:=
 ⟨rfl,.inr ⟨w.heap.size,0,#[],rfl,aT,(MapKept.heap_alloc w _).1,aT,z_,rfl,rfl⟩⟩
def Ea {w W:World} {d:Addr} {len:Nat} {X:Nat->Nat} (h:Ki w (some d) len X) (k:aC w W): ∀j u,(byteCells X len)[j]? =some u->W.cell? (d.add j)=some u:=by
 intro j u g
 have i:j<len:=by
  have:=(i6.1 g).1
  simpa [byteCells] using this
 rcases h with h|⟨b,a,e,c,f⟩
 ·omega
 ·simp at e
  subst e
  have l:((af b a):Addr).add j=(af b (a+j)):=by unfold Addr.add;simp
  rw[l,(k.cell (p:=(af b (a+j))) c).trans (f j i).1]
  grind[Ex.byteCells]
end Go.Proofs.YtnmhcgpnhlhcgaaGreatDoor.Ex
namespace Go.Proofs.YtnmhcgpnhlhcgaaGreatDoor.Bq
open Go.RowKit
def fC (a b:Int):Int:=if 18446744073709551615<a+b then 18446744073709551615 else a+b
def Pa (a b:Int) (w:World) (g:0<=a) (f:a<=18446744073709551615) (e:0<=b) (d:b<=18446744073709551615):
  vS 46 #[aj a,aj b] w (aj (fC a b)):=by
 unfold fC
 by_cases h:18446744073709551615<a+b
 ·rw[if_pos h]
  have c:18446744073709551615-b<a:=z_
  refine ge ?_
  go_wp2
  go_ret
  simp
 ·rw[if_neg h]
  have c: ¬18446744073709551615-b<a:=z_
  refine ge ?_
  go_wp2
  go_ret
  simp
end Go.Proofs.YtnmhcgpnhlhcgaaGreatDoor.Bq
namespace Go.Proofs.YtnmhcgpnhlhcgaaGreatDoor.Bq
open Go.RowKit Go.Lib
def Pv (a b:Int):Int:=a*b/18446744073709551616
def PJ (a b:Int):Int:=a*b%18446744073709551616
def FF (z:Int):bits .and .u64 (z%18446744073709551616) 4294967295=z%18446744073709551616%4294967296:=
 and_low32 _ z_ z_
def BD (a b:Int) (w:World) (d:0<=a) (g:a<=18446744073709551615) (c:0<=b) (f:b<=18446744073709551615):
  vS 117 #[aj a,aj b] w (.tuple #[aj (Pv a b),aj (PJ a b)]):=by
 have e:=aa<|mul64_arith a b d z_ c z_
 refine ge ?_
 go_wp2
 simp only[IntKind.wrap_u64,and_low32 a d z_,and_low32 b c z_,FF]
 rw[e.out]
 go_ret2
 exact⟨rfl,rfl⟩
def I8 (i:Nat) (h:i<Lib.len8tab.size):((Lib.len8tab[i]).toNat:Int)=(Lib.bitLen i:Int):=by
 have a:i<256:=by assumption
 have e:=Lib.len8_eq ⟨i,a⟩
 simp only[Lib.len8,Int.toNat_natCast,ByteArray.getElem?_lt' _ _ h,Option.getD_some] at e
 exact e
theorem mH {a:Int} (h: -9223372036854775808<=a) (b:a<9223372036854775808):wrap64 a=a:=by
 unfold wrap64;omega
def jk (x y:Int) (a:Int) (h:Lib.bitLen y.toNat<=8) (c:0<=a) (b:a<=56) (e:(Lib.bitLen x.toNat:Int)=a+(Lib.bitLen y.toNat:Int)):
  wrap64 (a+wrap64 (Lib.bitLen y.toNat:Int))=(Lib.bitLen x.toNat:Int):=by
 grind[Bq.mH]
def j8 (x:Int) (w:World) (b:0<=x) (c:x<=18446744073709551615):
  vS 216 #[aj x] w (ab (Lib.bitLen x.toNat)):=by
 have a:=Lib.len8tab_size
 refine ge ?_
 go_wp2
 all_goals (go_ret;refine⟨congrArg Ending.returned (congrArg (Value.int IntKind.i64) ?_),rfl⟩)
 all_goals rw[I8 _ z_]
 ·have s:=Lib.bitLen_shift56 x.toNat z_ z_
  have e:(x/4294967296/65536/256).toNat=x.toNat/72057594037927936:=z_
  exact jk x _ 56 (Lib.bitLen_le8' (x/4294967296/65536/256) z_ z_) x_ x_ y_
 ·have s:=Lib.bitLen_shift48 x.toNat z_ z_
  have e:(x/4294967296/65536).toNat=x.toNat/281474976710656:=z_
  exact jk x _ 48 (Lib.bitLen_le8' (x/4294967296/65536) z_ z_) x_ x_ y_
 ·have s:=Lib.bitLen_shift40 x.toNat z_ z_
  have e:(x/4294967296/256).toNat=x.toNat/1099511627776:=z_
  exact jk x _ 40 (Lib.bitLen_le8' (x/4294967296/256) z_ z_) x_ x_ y_
 ·have s:=Lib.bitLen_shift32 x.toNat z_ z_
  have e:(x/4294967296).toNat=x.toNat/4294967296:=z_
  exact jk x _ 32 (Lib.bitLen_le8' (x/4294967296) z_ z_) x_ x_ y_
 ·have s:=Lib.bitLen_shift24 x.toNat z_ z_
  have e:(x/65536/256).toNat=x.toNat/16777216:=z_
  exact jk x _ 24 (Lib.bitLen_le8' (x/65536/256) z_ z_) x_ x_ y_
 ·have s:=Lib.bitLen_shift16 x.toNat z_ z_
  have e:(x/65536).toNat=x.toNat/65536:=z_
  exact jk x _ 16 (Lib.bitLen_le8' (x/65536) z_ z_) x_ x_ y_
 ·have s:=Lib.bitLen_shift8 x.toNat z_ z_
  have e:(x/256).toNat=x.toNat/256:=z_
  exact jk x _ 8 (Lib.bitLen_le8' (x/256) z_ z_) x_ x_ y_
 ·have:=Lib.bitLen_le8' x b z_
  have e:wrap64 (Lib.bitLen x.toNat:Int)=(Lib.bitLen x.toNat:Int):=mH z_ z_
  rw[e,e]
@[go_sem] theorem Nw (w : World) : (Instr.build 272 #[]).run Tryz.prog w = .ok (.agg #[aj 0, aj 0, aj 0, aj 0]) w := run_build w 272 _ _ (by rfl)
@[go_sem] theorem Nu (a : Int) (w : World) : (Instr.build 272 #[(0, aj a)]).run Tryz.prog w = .ok (.agg #[aj a, aj 0, aj 0, aj 0]) w := run_build w 272 _ _ (by rfl)
@[go_sem] theorem Qe (a b c d h g f e : Int) (w : World) : (Op.equalIn 10000 272 (.agg #[aj a, aj b, aj c, aj d]) (.agg #[aj h, aj g, aj f, aj e])).run Tryz.prog w = .ok (a == h && b == g && c == f && d == e) w := by
 have j:=Tryz.underlying25
 have k:=Tryz.isAgg25
 have i:=Tryz.sizeOf25
 rw[show(10000:Nat)=9999+1 from rfl,Op.equalIn]
 simp only[Sem.run_bind,run_underlying Tryz.underlying272,Result.andThen_ok]
 simp only[Std.Legacy.Range.forIn_eq_forIn_range',Std.Legacy.Range.size,Nat.sub_zero,Nat.add_sub_cancel,Nat.div_one,List.range'_succ,List.range'_zero,List.forIn_cons,List.forIn_nil]
 go_simp
 grind
def gx (x:Int) (b:Int) (a:Int):Int:=if x=0 then a else b+Lib.bitLen x.toNat-1
def cB (a b c d:Int) (k:Nat):Int:=
 match k with
 |0=>0
 |1=>gx a 0 0
 |2=>gx b 64 (gx a 0 0)
 |3=>gx c 128 (gx b 64 (gx a 0 0))
 |_=>gx d 192 (gx c 128 (gx b 64 (gx a 0 0)))
def eH (d c b a:Int):Int:=if d=0/\c=0/\b=0/\a=0 then-1 else cB d c b a 4
def ei (x:Int) (b:0<=x) (a:x<=18446744073709551615):0<=(Lib.bitLen x.toNat:Int)/\(Lib.bitLen x.toNat:Int)<=64:=by
 have:=Lib.bitLen_le x.toNat 64 z_ z_
 omega
def rq (x:Int):Prop:=0<=x/\x<=18446744073709551615
theorem tx (w:World):
  aB 233 #[.agg #[aj 0,aj 0,aj 0,aj 0]] w fun e a=>e= .returned (ab (-1))/\ ∃c:Array Value,a=w.alloc (.cells c 272):=by
 refine ge ?_
 go_wp2
 go_ret
 exact⟨rfl,_,rfl⟩
theorem ub (f d b a:Int) (w:World) (C:rq f) (B:rq d) (A:rq b) (z:rq a) (v: ¬(f=0/\d=0/\b=0/\a=0)):
  aB 233 #[.agg #[aj f,aj d,aj b,aj a]] w fun e l=>e= .returned (ab (cB f d b a 4))/\ ∃c:Array Value,l=w.alloc (.cells c 272):=by
 obtain⟨t,s⟩:=C;obtain⟨r,q⟩:=B;obtain⟨p,o⟩:=A;obtain⟨n,m⟩:=z
 have x:(f==0&&d==0&&b==0&&a==0)=false:=by
  grind
 clear v
 refine ge ?_
 go_wp2
 clear x
 go_loop [3,8] (fun h i=> ∃k:Nat,k<=4/\i=ab k/\h=ab (cB f d b a k)) (fun _ i=>4-(intOf i).toNat)
 case atStart=>exact⟨0,z_,rfl,rfl⟩
 case round=>
  obtain⟨k,D,rfl,rfl⟩:=hrel
  have y:k=0\/k=1\/k=2\/k=3\/k=4:=z_
  rcases y with rfl|rfl|rfl|rfl|rfl
  ·have u:=ei f t s
   by_cases hz:f=0
   ·have g:(f==0)=true:=by simp[hz]
    have j:Hid (cB f d b a 0=cB f d b a 1):=by
     show _=_
     simp[cB,gx,hz]
    clear hz
    go_wp2
    go_round
    case rel=>exact⟨1,z_,rfl,by rw[j.out]⟩
    decide
   ·have g:(f==0)=false:=by simp[hz]
    have j:Hid (cB f d b a 1=0+(Lib.bitLen f.toNat:Int)-1):=by
     show _=_
     simp[cB,gx,hz]
    clear hz
    go_wp2_with (go_at_call 216;refine(j8 f _ t s).mono ?_;rintro e l ⟨rfl,rfl⟩)
    go_round
    case rel=>exact⟨1,z_,rfl,by rw[j.out];go_num⟩
    decide
  ·have u:=ei d r q
   by_cases hz:d=0
   ·have g:(d==0)=true:=by simp[hz]
    have j:Hid (cB f d b a 1=cB f d b a 2):=by
     show _=_
     simp[cB,gx,hz]
    clear hz
    go_wp2
    go_round
    case rel=>exact⟨2,z_,rfl,by rw[j.out]⟩
    decide
   ·have g:(d==0)=false:=by simp[hz]
    have j:Hid (cB f d b a 2=64+(Lib.bitLen d.toNat:Int)-1):=by
     show _=_
     simp[cB,gx,hz]
    clear hz
    go_wp2_with (go_at_call 216;refine(j8 d _ r q).mono ?_;rintro e l ⟨rfl,rfl⟩)
    go_round
    case rel=>exact⟨2,z_,rfl,by rw[j.out]⟩
    decide
  ·have u:=ei b p o
   by_cases hz:b=0
   ·have g:(b==0)=true:=by simp[hz]
    have j:Hid (cB f d b a 2=cB f d b a 3):=by
     show _=_
     simp[cB,gx,hz]
    clear hz
    go_wp2
    go_round
    case rel=>exact⟨3,z_,rfl,by rw[j.out]⟩
    decide
   ·have g:(b==0)=false:=by simp[hz]
    have j:Hid (cB f d b a 3=128+(Lib.bitLen b.toNat:Int)-1):=by
     show _=_
     simp[cB,gx,hz]
    clear hz
    go_wp2_with (go_at_call 216;refine(j8 b _ p o).mono ?_;rintro e l ⟨rfl,rfl⟩)
    go_round
    case rel=>exact⟨3,z_,rfl,by rw[j.out]⟩
    decide
  ·have u:=ei a n m
   by_cases hz:a=0
   ·have g:(a==0)=true:=by simp[hz]
    have j:Hid (cB f d b a 3=cB f d b a 4):=by
     show _=_
     simp[cB,gx,hz]
    clear hz
    go_wp2
    go_round
    case rel=>exact⟨4,z_,rfl,by rw[j.out]⟩
    decide
   ·have g:(a==0)=false:=by simp[hz]
    have j:Hid (cB f d b a 4=192+(Lib.bitLen a.toNat:Int)-1):=by
     show _=_
     simp[cB,gx,hz]
    clear hz
    go_wp2_with (go_at_call 216;refine(j8 a _ n m).mono ?_;rintro e l ⟨rfl,rfl⟩)
    go_round
    case rel=>exact⟨4,z_,rfl,by rw[j.out]⟩
    decide
  ·go_wp2
   go_ret
   exact⟨rfl,_,rfl⟩
theorem oD (f d b a:Int) (w:World) (l:rq f) (k:rq d) (j:rq b) (i:rq a):
  aB 233 #[.agg #[aj f,aj d,aj b,aj a]] w fun e g=>e= .returned (ab (eH f d b a))/\ ∃c:Array Value,g=w.alloc (.cells c 272):=by
 unfold eH
 by_cases h:f=0/\d=0/\b=0/\a=0
 ·rw[if_pos h];grind[Bq.tx]
 ·rw[if_neg h];grind[Bq.ub]
def zv: ∀(n x:Nat),x<2^n->n<=64->x≠0->2^(Lib.bitLen x-1)<=x/\x<2^(Lib.bitLen x)/\1<=Lib.bitLen x
 |0,x,h,_,f=>by omega
 |n+1,x,h,i,f=>by
  have g:=i8 h (Nat.pow_le_pow_right x_ i)
  have e:=Lib.bitLen_half x f g
  by_cases j:x/2=0
  ·have d:x=1:=by omega
   subst d
   decide
  ·obtain⟨a,b,c⟩:=zv n (x/2) z_ z_ j
   rw[e]
   obtain⟨L,k⟩: ∃L,Lib.bitLen (x/2)=L+1:=⟨Lib.bitLen (x/2)-1,z_⟩
   grind
def bl (x:Int) (h:rq x) (a:x≠0):2^(Lib.bitLen x.toNat-1)<=x.toNat/\x.toNat<2^(Lib.bitLen x.toNat)/\1<=Lib.bitLen x.toNat:=by
 obtain⟨l,m⟩:=h
 exact zv 64 x.toNat z_ z_ z_
theorem qZ (d c b a:Int):eH d c b a=if d=0/\c=0/\b=0/\a=0 then-1 else gx a 192 (gx b 128 (gx c 64 (gx d 0 0))):=rfl
def Lf (d c b a:Int) (h:rq d) (g:rq c) (f:rq b) (e:rq a): -1<=eH d c b a/\eH d c b a<=255:=by
 have l:=ei d h.1 h.2;have k:=ei c g.1 g.2;have j:=ei b f.1 f.2;have i:=ei a e.1 e.2
 grind[Bq.qZ,Bq.gx]
def N9 (d c b a:Int) (i:rq d) (g:rq c) (f:rq b) (e:rq a):(d≠0->0+(Lib.bitLen d.toNat:Int)-1<=eH d c b a)/\(c≠0->64+(Lib.bitLen c.toNat:Int)-1<=eH d c b a)/\(b≠0->128+(Lib.bitLen b.toNat:Int)-1<=eH d c b a)/\(a≠0->192+(Lib.bitLen a.toNat:Int)-1<=eH d c b a):=by
 have m:=ei d i.1 i.2;have l:=ei c g.1 g.2;have k:=ei b f.1 f.2;have j:=ei a e.1 e.2
 have q:d≠0->1<=(Lib.bitLen d.toNat:Int):=fun h=>by have:=(bl d i h).2.2;omega
 have p:c≠0->1<=(Lib.bitLen c.toNat:Int):=fun h=>by have:=(bl c g h).2.2;omega
 have o:b≠0->1<=(Lib.bitLen b.toNat:Int):=fun h=>by have:=(bl b f h).2.2;omega
 have n:a≠0->1<=(Lib.bitLen a.toNat:Int):=fun h=>by have:=(bl a e h).2.2;omega
 grind[Bq.qZ,Bq.gx]
def Ou (d c b a:Int) (i:rq d) (g:rq c) (f:rq b) (e:rq a) (m:Int) (k:0<=m) (j:m<64):(eH d c b a=0+m->d≠0/\(Lib.bitLen d.toNat:Int)-1=m)/\(eH d c b a=64+m->c≠0/\(Lib.bitLen c.toNat:Int)-1=m)/\(eH d c b a=128+m->b≠0/\(Lib.bitLen b.toNat:Int)-1=m)/\(eH d c b a=192+m->a≠0/\(Lib.bitLen a.toNat:Int)-1=m):=by
 have p:=ei d i.1 i.2;have o:=ei c g.1 g.2;have n:=ei b f.1 f.2;have l:=ei a e.1 e.2
 have t:d≠0->1<=(Lib.bitLen d.toNat:Int):=fun h=>by have:=(bl d i h).2.2;omega
 have s:c≠0->1<=(Lib.bitLen c.toNat:Int):=fun h=>by have:=(bl c g h).2.2;omega
 have r:b≠0->1<=(Lib.bitLen b.toNat:Int):=fun h=>by have:=(bl b f h).2.2;omega
 have q:a≠0->1<=(Lib.bitLen a.toNat:Int):=fun h=>by have:=(bl a e h).2.2;omega
 rw[qZ]
 unfold gx
 omega
end Go.Proofs.YtnmhcgpnhlhcgaaGreatDoor.Bq
namespace Go.Proofs.YtnmhcgpnhlhcgaaGreatDoor.Bq
open Go.RowKit
structure aH (w:World) (b g n:Nat) (F L:Nat->Nat) (M:Nat->Int) (c:Nat) (A B V:Nat->Nat) (T:Nat->Bool):Prop where
 bg:b≠g
 fst: ∀i,i<256->w.cell? (af b i)=some (ab (F i))
 lK: ∀i,i<256->w.cell? (af b (256+i))=some (ab (L i))
 msk: ∀i,i<4->w.cell? (af b (512+i))=some (aj (M i))
 sl: ∃cp,w.cell? (af b 516)=some (.slice (some (ao g)) (n+1) cp)
 cn:w.cell? (af b 517)=some (ab c)
 la: ∀s,s<=n->w.cell? (af g (s*4))=some (ab (A s))
 lb: ∀s,s<=n->w.cell? (af g (s*4+1))=some (ab (B s))
 lv: ∀s,s<=n->w.cell? (af g (s*4+2))=some (aA (V s))
 lt: ∀s,s<=n->w.cell? (af g (s*4+3))=some (.bool (T s))
 fb: ∀o,w.frozen? (af b o)=false
 fg: ∀o,w.frozen? (af g o)=false
section
variable {w:World} {b g n:Nat} {F L:Nat->Nat} {M:Nat->Int} {c:Nat} {A B V:Nat->Nat} {T:Nat->Bool}
def aH.drew (h:aH w b g n F L M c A B V T):aH w.drew b g n F L M c A B V T:=⟨h.bg,h.fst,h.lK,h.msk,h.sl,h.cn,h.la,h.lb,h.lv,h.lt,h.fb,h.fg⟩
def aH.cG (h:aH w b g n F L M c A B V T):b<w.heap.size:=i7 w (af b 517) h.cn
def aH.dO (h:aH w b g n F L M c A B V T):g<w.heap.size:=i7 w (af g (0*4)) (h.la 0 (Nat.zero_le _))
theorem aH.kept {w':World} (h:aH w b g n F L M c A B V T) (d:w'.heap[b]? =w.heap[b]?) (a:w'.heap[g]? =w.heap[g]?):aH w' b g n F L M c A B V T:=by
 have:=LX d
 have:=LX a
 exact mK
def aH.alloc (h:aH w b g n F L M c A B V T) (o:Obj):aH (w.alloc o) b g n F L M c A B V T:=
 h.kept (zU0 w o b h.cG) (zU0 w o g h.dO)
theorem aH.dJ (h:aH w b g n F L M c A B V T) (k:Nat) (a:k<256) (x:Nat):aH (w.setCell (af b k) (ab x)) b g n (ay F k x) L M c A B V T:=mK
def aH.rA (h:aH w b g n F L M c A B V T) (k:Nat) (a:k<256) (x:Nat):aH (w.setCell (af b (256+k)) (ab x)) b g n F (ay L k x) M c A B V T:=mK
def aH.NI (h:aH w b g n F L M c A B V T) (k:Nat) (a:k<4) (x:Int):aH (w.setCell (af b (512+k)) (aj x)) b g n F L (ay M k x) c A B V T:=mK
def aH.fQ (h:aH w b g n F L M c A B V T) (x:Nat):aH (w.setCell (af b 517) (ab x)) b g n F L M x A B V T:=mK
def aH.gk (h:aH w b g n F L M c A B V T) (k:Nat) (a:k<=n) (x:Nat):aH (w.setCell (af g (k*4)) (ab x)) b g n F L M c (ay A k x) B V T:=mK
def aH.gd (h:aH w b g n F L M c A B V T) (k:Nat) (a:k<=n) (x:Nat):aH (w.setCell (af g (k*4+1)) (ab x)) b g n F L M c A (ay B k x) V T:=mK
def aH.Ch (h:aH w b g n F L M c A B V T) (k:Nat) (a:k<=n) (x:Nat):aH (w.setCell (af g (k*4+2)) (aA x)) b g n F L M c A B (ay V k x) T:=mK
def aH.nX (h:aH w b g n F L M c A B V T) (k:Nat) (a:k<=n) (x:Bool):aH (w.setCell (af g (k*4+3)) (.bool x)) b g n F L M c A B V (ay T k x):=mK
end
def GO (m:Int) (a:Nat):Int:=bits BinOp.or IntKind.u64 m (IntKind.u64.wrap (2^(a%64)))
section
variable {w:World} {b g n:Nat} {F L:Nat->Nat} {M:Nat->Int} {c:Nat} {A B V:Nat->Nat} {T:Nat->Bool}
def BI (h:aH w b g n F L M c A B V T) (d a:Nat) (i:d<256) (f:a<=n) (_hn:n<=1024) (p:c<=1024) (l:L d=0):
  aB 240 #[ak b,aA d,ab a] w fun e w'=>e=aS #[]/\
   aH w' b g n (ay F d a) (ay L d a) (ay M (d/64) (GO (M (d/64)) d)) (c+1) (ay A a 0) (ay B a 0) (ay V a d) (ay T a true)/\aW b g w w':=by
 have H:=aa h
 have k:=h.lK d i
 rw[l] at k
 have o:w.cell? (af b (256+d))=some (ab 0):=k
 have C:=h.fst d i
 obtain⟨D,z⟩:=h.sl
 have y:=h.cn
 have x:=h.msk (d/64) z_
 have v:=h.la a f
 have u:=h.lb a f
 have t:=h.lv a f
 have s:=h.lt a f
 have r:=h.fb
 have q:=h.fg
 have j:=h.bg
 have m:g≠b:=fun e=>j e.symm
 clear k h l
 refine ge ?_
 go_wp2
 go_region
 go_wp2
 go_end0
 refine⟨rfl,?_,?_⟩
 ·exact((((((((H.out.gk a f 0).gd a f 0).Ch a f d).nX a f true).dJ d i a).NI (d/64) z_ _).rA d i a).fQ (c+1)).drew
 ·exact((((((((((aW.refl b g w).set _ _ (Or.inr rfl)).set _ _ (Or.inr rfl)).set _ _ (Or.inr rfl)).set _ _ (Or.inr rfl)).set _ _ (Or.inl rfl)).set _ _ (Or.inl rfl)).set _ _ (Or.inl rfl)).set _ _ (Or.inl rfl))).drew
def D9 (h:aH w b g n F L M c A B V T) (i a f:Nat) (j:i<256) (d:a<=n) (_hn:n<=1024) (x:c<=1024) (m:L i=f) (z:1<=f) (l:f<=n) (y:f≠a):
  aB 240 #[ak b,aA i,ab a] w fun e w'=>e=aS #[]/\
   aH w' b g n F (ay L i a) M (c+1) (ay A a f) (ay (ay B a 0) f a) (ay V a i) (ay T a true)/\aW b g w w':=by
 have H:=aa h
 have r:=h.lK i j
 rw[m] at r
 have P:=h.fst i j
 obtain⟨Q,O⟩:=h.sl
 have N:=h.cn
 have J:=h.la a d
 have I:=h.lb a d
 have G:=h.lv a d
 have E:=h.lt a d
 have q:=h.lb f l
 have D:=h.fb
 have C:=h.fg
 have k:=h.bg
 have p:g≠b:=fun e=>k e.symm
 have o:((f:Int)==0)=false:=y_
 have v: ¬a*4=f*4+1:=z_
 have u: ¬a*4+1=f*4+1:=z_
 have t: ¬a*4+2=f*4+1:=z_
 have s: ¬a*4+3=f*4+1:=z_
 clear h m
 refine ge ?_
 go_wp2
 go_end0
 refine⟨rfl,?_,?_⟩
 ·exact(((((((H.out.gk a d f).gd a d 0).Ch a d i).nX a d true).gd f l a).rA i j a).fQ (c+1))
 ·exact((((((((aW.refl b g w).set _ _ (Or.inr rfl)).set _ _ (Or.inr rfl)).set _ _ (Or.inr rfl)).set _ _ (Or.inr rfl)).set _ _ (Or.inr rfl)).set _ _ (Or.inl rfl)).set _ _ (Or.inl rfl))
def zi (m:Int) (a:Nat):Int:=bits BinOp.andNot IntKind.u64 m (IntKind.u64.wrap (2^(a%64)))
def x9 (h:aH w b g n F L M (c+1) A B V T) (a f:Nat) (d:a<=n) (i:f<256) (_hn:n<=1024) (z:c<=1024) (p:A a=0) (o:B a=0) (m:V a=f):
  aB 223 #[ak b,ab a] w fun e w'=>e=aS #[]/\
   aH w' b g n (ay F f 0) (ay L f 0) (ay M (f/64) (zi (M (f/64)) f)) c (ay A a 0) (ay B a 0) (ay V a 0) (ay T a false)/\aW b g w w':=by
 have H:=aa h
 obtain⟨P,O⟩:=h.sl
 have N:w.cell? (af b 517)=some (ab ((c:Int)+1)):=h.cn
 have l:=h.la a d
 have k:=h.lb a d
 have r:=h.lv a d
 have J:=h.lt a d
 rw[p] at l
 rw[o] at k
 rw[m] at r
 have I:=h.fst f i
 have G:=h.lK f i
 have E:=h.msk (f/64) z_
 have D:=h.fb
 have C:=h.fg
 have j:=h.bg
 have q:g≠b:=fun e=>j e.symm
 have v:=h.cG
 have u:=h.dO
 have y: ¬b=w.heap.size:=z_
 have x: ¬g=w.heap.size:=z_
 have t:w.cell? (af g (a*4))=some (ab 0):=l
 have s:w.cell? (af g (a*4+1))=some (ab 0):=k
 clear h p o m l k
 refine ge ?_
 go_wp2
 go_region
 go_wp2
 go_region
 go_wp2
 go_region
 go_wp2
 go_region
 go_wp2
 go_end0
 refine⟨rfl,?_,?_⟩
 ·exact((((((((((H.out.dJ f i 0).rA f i 0).NI (f/64) z_ _).gk a d 0).gd a d 0).Ch a d 0).nX a d false).fQ c)).alloc _).drew.drew.drew.drew
 ·exact((((((((((aW.refl b g w).set _ _ (Or.inl rfl)).set _ _ (Or.inl rfl)).set _ _ (Or.inl rfl)).set _ _ (Or.inr rfl)).set _ _ (Or.inr rfl)).set _ _ (Or.inr rfl)).set _ _ (Or.inr rfl)).set _ _ (Or.inl rfl)).alloc _).drew.drew.drew.drew
def xQ (h:aH w b g n F L M (c+1) A B V T) (a f:Nat) (d:a<=n) (i:f<256) (_hn:n<=1024) (O:c<=1024) (y:Nat) (p:A a=0) (o:B a=y) (m:V a=f) (l:y<=n) (r:1<=y) (q:y≠a):
  aB 223 #[ak b,ab a] w fun e w'=>e=aS #[]/\
   aH w' b g n (ay F f y) L M c (ay (ay A y 0) a 0) (ay B a 0) (ay V a 0) (ay T a false)/\aW b g w w':=by
 have H:=aa h
 obtain⟨cp,Z⟩:=h.sl
 have Y:w.cell? (af b 517)=some (ab ((c:Int)+1)):=h.cn
 have k:=h.la a d
 have u:=h.lb a d
 have t:=h.lv a d
 have X:=h.lt a d
 rw[p] at k
 rw[o] at u
 rw[m] at t
 have W:=h.fst f i
 have U:=h.lK f i
 have S:=h.msk (f/64) z_
 have Q:=h.fb
 have P:=h.fg
 have j:=h.bg
 have s:g≠b:=fun e=>j e.symm
 have z:=h.cG
 have x:=h.dO
 have D: ¬b=w.heap.size:=z_
 have C: ¬g=w.heap.size:=z_
 have N:((y:Int)==0)=false:=y_
 have J: ¬y*4=a*4:=z_
 have I: ¬y*4=a*4+1:=z_
 have G: ¬y*4=a*4+2:=z_
 have E: ¬y*4=a*4+3:=z_
 have R:=h.la y l
 have v:w.cell? (af g (a*4))=some (ab 0):=k
 clear h p o m k
 refine ge ?_
 go_wp2
 go_region
 go_wp2
 go_region
 go_wp2
 go_region
 go_wp2
 go_end0
 refine⟨rfl,?_,?_⟩
 ·exact(((((((((H.out.dJ f i y).gk y l 0).gk a d 0).gd a d 0).Ch a d 0).nX a d false).fQ c)).alloc _).drew.drew.drew
 ·exact(((((((((aW.refl b g w).set _ _ (Or.inl rfl)).set _ _ (Or.inr rfl)).set _ _ (Or.inr rfl)).set _ _ (Or.inr rfl)).set _ _ (Or.inr rfl)).set _ _ (Or.inr rfl)).set _ _ (Or.inl rfl)).alloc _).drew.drew.drew
def xO (h:aH w b g n F L M (c+1) A B V T) (a i:Nat) (d:a<=n) (j:i<256) (_hn:n<=1024) (U:c<=1024) (x f:Nat) (r:A a=x) (q:B a=0) (o:V a=i) (p:F i=f) (S:1<=f) (m:x<=n) (t:1<=x) (s:x≠a):
  aB 223 #[ak b,ab a] w fun e w'=>e=aS #[]/\
   aH w' b g n F (ay L i x) M c (ay A a 0) (ay (ay B x 0) a 0) (ay V a 0) (ay T a false)/\aW b g w w':=by
 have H:=aa h
 obtain⟨cp,e1⟩:=h.sl
 have e2:w.cell? (af b 517)=some (ab ((c:Int)+1)):=h.cn
 have C:=h.la a d
 have l:=h.lb a d
 have y:=h.lv a d
 have e6:=h.lt a d
 rw[r] at C
 rw[q] at l
 rw[o] at y
 have v:=h.fst i j
 have e8:=h.lK i j
 have Z:=h.msk (i/64) z_
 have X:=h.fb
 have W:=h.fg
 have k:=h.bg
 have u:g≠b:=fun e=>k e.symm
 have E:=h.cG
 have D:=h.dO
 have I: ¬b=w.heap.size:=z_
 have G: ¬g=w.heap.size:=z_
 have Q:((x:Int)==0)=false:=y_
 have P: ¬x*4+1=a*4:=z_
 have O: ¬x*4+1=a*4+1:=z_
 have N: ¬x*4+1=a*4+2:=z_
 have J: ¬x*4+1=a*4+3:=z_
 have Y:=h.lb x m
 have R:((f:Int)==0)=false:=y_
 rw[p] at v
 have z:w.cell? (af g (a*4+1))=some (ab 0):=l
 clear h r q o p l
 refine ge ?_
 go_wp2
 go_region
 go_wp2
 go_region
 go_wp2
 go_region
 go_wp2
 go_end0
 refine⟨rfl,?_,?_⟩
 ·exact(((((((((H.out.gd x m 0).rA i j x).gk a d 0).gd a d 0).Ch a d 0).nX a d false).fQ c)).alloc _).drew.drew.drew
 ·exact(((((((((aW.refl b g w).set _ _ (Or.inr rfl)).set _ _ (Or.inl rfl)).set _ _ (Or.inr rfl)).set _ _ (Or.inr rfl)).set _ _ (Or.inr rfl)).set _ _ (Or.inr rfl)).set _ _ (Or.inl rfl)).alloc _).drew.drew.drew
def BJ (h:aH w b g n F L M (c+1) A B V T) (a i:Nat) (d:a<=n) (j:i<256) (_hn:n<=1024) (hc:c<=1024) (x y f:Nat) (r:A a=x) (q:B a=y) (o:V a=i) (p:F i=f) (hf:1<=f) (m:x<=n) (v:1<=x) (u:x≠a) (l:y<=n) (t:1<=y) (s:y≠a):
  aB 223 #[ak b,ab a] w fun e w'=>e=aS #[]/\
   aH w' b g n F L M c (ay (ay A y x) a 0) (ay (ay B x y) a 0) (ay V a 0) (ay T a false)/\aW b g w w':=by
 have H:=aa h
 obtain⟨cp,e1⟩:=h.sl
 have e2:w.cell? (af b 517)=some (ab ((c:Int)+1)):=h.cn
 have G:=h.la a d
 have E:=h.lb a d
 have D:=h.lv a d
 have e6:=h.lt a d
 rw[r] at G
 rw[q] at E
 rw[o] at D
 have C:=h.fst i j
 have e8:=h.lK i j
 have e9:=h.msk (i/64) z_
 have fb:=h.fb
 have fg:=h.fg
 have k:=h.bg
 have z:g≠b:=fun e=>k e.symm
 have J:=h.cG
 have I:=h.dO
 have O: ¬b=w.heap.size:=z_
 have N: ¬g=w.heap.size:=z_
 have ny:((y:Int)==0)=false:=y_
 have S: ¬y*4=a*4:=z_
 have R: ¬y*4=a*4+1:=z_
 have Q: ¬y*4=a*4+2:=z_
 have P: ¬y*4=a*4+3:=z_
 have ey:=h.la y l
 have nx:((x:Int)==0)=false:=y_
 have Z: ¬x*4+1=a*4:=z_
 have Y: ¬x*4+1=a*4+1:=z_
 have X: ¬x*4+1=a*4+2:=z_
 have W: ¬x*4+1=a*4+3:=z_
 have ex:=h.lb x m
 have nf:((f:Int)==0)=false:=y_
 rw[p] at C
 have U: ¬x*4+1=y*4:=z_
 clear h r q o p
 refine ge ?_
 go_wp2
 go_region
 go_wp2
 go_region
 go_wp2
 go_region
 go_wp2
 go_end0
 refine⟨rfl,?_,?_⟩
 ·exact(((((((((H.out.gd x m y).gk y l x).gk a d 0).gd a d 0).Ch a d 0).nX a d false).fQ c)).alloc _).drew.drew.drew
 ·exact(((((((((aW.refl b g w).set _ _ (Or.inr rfl)).set _ _ (Or.inr rfl)).set _ _ (Or.inr rfl)).set _ _ (Or.inr rfl)).set _ _ (Or.inr rfl)).set _ _ (Or.inr rfl)).set _ _ (Or.inl rfl)).alloc _).drew.drew.drew
end
end Go.Proofs.YtnmhcgpnhlhcgaaGreatDoor.Bq
namespace Go.Proofs.YtnmhcgpnhlhcgaaGreatDoor.Bq
def QL (R:List (Nat×Nat)) (b:Nat):List Nat:=(R.filter (fun a=>a.2==b)).map (fun a=>a.1+1)
def kQ (A B:Nat->Nat):Nat->List Nat->Prop
 |_,[]=>True
 |p,x::xs=>A x=p/\B x=xs.headD 0/\kQ A B x xs
def fW (A B e d:Nat->Nat): ∀(l:List Nat) (p:Nat),(∀s∈l,e s=A s/\d s=B s)->kQ A B p l->kQ e d p l
 |[],_,_,_=>trivial
 |x::xs,p,h,f=>by
  obtain⟨a,b,c⟩:=f
  obtain⟨i,g⟩:=h x q_
  exact⟨i.trans a,g.trans b,fW A B e d xs x y_ c⟩
theorem gO: ∀(l:List Nat) (p:Nat),l≠[]->l.getLastD p∈l
 |[],_,h=>absurd rfl h
 |[x],p,_=>by simp
 |x::y::ys,p,_=>by
  grind
def qo (A B h g:Nat->Nat) (d:Nat): ∀(l:List Nat) (p:Nat),l.Nodup->kQ A B p l->h d=l.getLastD p->g d=0->(∀s∈l,h s=A s)->
  (∀s∈l,g s=if s=l.getLastD p then d else B s)->kQ h g p (l++[d])
 |[],p,_,_,f,j,_,_=>⟨f,j,trivial⟩
 |x::xs,p,i,n,f,j,q,k=>by
  obtain⟨a,b,c⟩:=n
  rw[yV0] at i
  rw[List.getLastD_cons] at f k
  refine⟨y_,?_,qo A B h g d xs x i.2 c f j y_ y_⟩
  rw[k x q_]
  cases xs with
  |nil=>simp
  |cons y m=>
   have o:x≠(y::m).getLastD x:=fun e=>i.1 y_
   simp_all
def rS (A B:Nat->Nat) (a:Nat) (b:List Nat): ∀(c:List Nat) (p:Nat),kQ A B p (c++a::b)->A a=c.getLastD p/\B a=b.headD 0/\kQ A B a b
 |[],p,h=>⟨h.1,h.2.1,h.2.2⟩
 |x::xs,p,h=>by
  have:=rS A B a b xs x h.2.2
  grind
def l9 (A B h g:Nat->Nat) (k:Nat) (d:List Nat): ∀(f:List Nat) (p:Nat),(f++k::d).Nodup->kQ A B p (f++k::d)->
  (∀s∈f,h s=A s)->(∀s∈d,h s=if s=d.headD 0 then f.getLastD p else A s)->(∀s∈f,g s=if s=f.getLastD p then d.headD 0 else B s)->(∀s∈d,g s=B s)->kQ h g p (f++d)
 |[],p,i,l,_,m,_,n=>by
  cases d with
  |nil=>trivial
  |cons y j=>
   obtain⟨_,_,a,b,c⟩:=l
   simp only[List.nil_append,yV0] at i
   refine⟨y_,y_,fW A B h g j y (fun s r=>⟨?_,y_⟩) c⟩
   grind
 |x::xs,p,i,l,t,m,o,n=>by
  obtain⟨a,b,c⟩:=l
  simp only[List.cons_append,yV0] at i
  rw[List.getLastD_cons] at m o
  refine⟨y_,?_,l9 A B h g k d xs x i.2 c y_ m y_ n⟩
  rw[o x q_]
  cases xs with
  |nil=>simp
  |cons y j=>
   have q:x≠(y::j).getLastD x:=fun e=>y_
   simp_all
structure Inv (n:Nat) (F L m:Nat->Nat) (c:Nat) (A B V:Nat->Nat) (T:Nat->Bool) (R:List (Nat×Nat)):Prop where
 ids:(R.map (·.1)).Nodup
 nN: ∀it∈R,it.1<n/\it.2<256
 there: ∀s,s<=n->(T s=true↔ ∃it∈R,it.1+1=s)
 jZ: ∀it∈R,V (it.1+1)=it.2
 nolev: ∀s,s<=n->T s=false->V s=0
 ch: ∀lv,lv<256->kQ A B 0 (QL R lv)
 hd: ∀lv,lv<256->F lv=(QL R lv).headD 0
 tl: ∀lv,lv<256->L lv=(QL R lv).getLastD 0
 bit: ∀lv,lv<256->(m (lv/64)).testBit (lv%64)= !(QL R lv).isEmpty
 mlt: ∀i,i<4->m i<18446744073709551616
 cnt:c=R.length
def Fv {R:List (Nat×Nat)} {a s:Nat}:s∈QL R a↔ ∃b∈R,b.2=a/\b.1+1=s:=by
 unfold QL
 simp only[List.mem_map,List.mem_filter,beq_iff_eq]
 grind
theorem iz (R:List (Nat×Nat)) (b a k:Nat):QL (R++[(b,a)]) k=if k=a then QL R k++[b+1] else QL R k:=by
 unfold QL
 grind
def qx {R:List (Nat×Nat)} (h:(R.map (·.1)).Nodup) (a:Nat):(QL R a).Nodup:=by
 grind[Bq.QL]
def BX (x a:Nat) (h:x<18446744073709551616):GO (x:Int) a=((x|||2^(a%64):Nat):Int):=by
 have c:2^(a%64)<=2^63:=Nat.pow_le_pow_right x_ z_
 have b:(2:Nat)^63=9223372036854775808:=x_
 unfold GO
 have e:IntKind.u64.wrap ((2:Int)^(a%64))=((2^(a%64):Nat):Int):=by
  grind[IntKind.wrap_u64]
 rw[e,bits_or_u64_nat x _ h z_]
def xD (x a:Nat) (h:x<18446744073709551616):zi (x:Int) a=((x&&&(18446744073709551615-2^(a%64)):Nat):Int):=by
 have c:2^(a%64)<=2^63:=Nat.pow_le_pow_right x_ z_
 have b:(2:Nat)^63=9223372036854775808:=x_
 unfold zi
 have e:IntKind.u64.wrap ((2:Int)^(a%64))=((2^(a%64):Nat):Int):=by
  grind[IntKind.wrap_u64]
 rw[e,u64_andNot_nat x _ h z_]
theorem Ot (x a:Nat) (h:x<18446744073709551616):x|||2^(a%64)<18446744073709551616:=
 Nat.or_lt_two_pow (n:=64) h (Nat.pow_lt_pow_right x_ z_)
def LF (x y:Nat) (h:x<18446744073709551616):x&&&y<18446744073709551616:=Nat.lt_of_le_of_lt Nat.and_le_left h
def AM (x k j:Nat) (a:k<64) (b:j<64):(x&&&(18446744073709551615-2^k)).testBit j=(x.testBit j&& !decide (k=j)):=by
 rw[Nat.testBit_and]
 congr 1
 have e:18446744073709551615-2^k=2^64-(2^k+1):=by
  omega
 rw[e,Nat.testBit_two_pow_sub_succ (Nat.pow_lt_pow_right x_ a),Nat.testBit_two_pow]
 simp[b]
theorem iW: ∀(l:List Nat),l≠[]->l.headD 0∈l
 |[],h=>absurd rfl h
 |x::xs,_=>by simp
section
variable {n:Nat} {F L m:Nat->Nat} {c:Nat} {A B V:Nat->Nat} {T:Nat->Bool} {R:List (Nat×Nat)}
def Inv.gF (h:Inv n F L m c A B V T R) {a s:Nat} (b:s∈QL R a):s<=n/\T s=true/\V s=a/\1<=s:=by
 obtain⟨d,hi,f,e⟩:=Fv.1 b
 exact mK
theorem Inv.last_zero (h:Inv n F L m c A B V T R) (a:Nat) (b:a<256):L a=0↔QL R a=[]:=by
 rw[h.tl a b]
 constructor
 ·intro e
  apply Classical.byContradiction
  grind[Bq.gO,Bq.QL]
 grind
def Inv.xK (h:Inv n F L m c A B V T R) (a:Nat) (b:a<256):F a=0↔QL R a=[]:=by
 rw[h.hd a b]
 constructor
 ·intro e
  apply Classical.byContradiction
  grind[Bq.iW,Bq.QL]
 grind
def vk {a b:Nat} (h:Inv n F L m c A B V T R) (e: ∀d∈R,d.1≠a):((R++[(a,b)]).map (·.1)).Nodup:=by
 grind[Bq.Inv.ids]
def wy {d b:Nat} (h:Inv n F L m c A B V T R) (hi:d<n) (e:b<256): ∀a∈R++[(d,b)],a.1<n/\a.2<256:=by
 intro a f
 exact mK
def qn {a b:Nat} (h:Inv n F L m c A B V T R): ∀s,s<=n->(ay T (a+1) true s=true↔ ∃d∈R++[(a,b)],d.1+1=s):=by
 intro s f
 by_cases e:s=a+1
 ·subst e;rw[aE];simp
 ·rw[aq _ _ _ _ e,h.there s f]
  constructor
  ·simp_all
  grind
def vX {d f:Nat} (h:Inv n F L m c A B V T R) (g: ∀b∈R,b.1≠d): ∀b∈R++[(d,f)],ay V (d+1) f (b.1+1)=b.2:=by
 intro b e
 rcases List.mem_append.1 e with a|a
 ·grind[aq,Bq.Inv.jZ]
 grind[ay]
def qW {a b:Nat} (h:Inv n F L m c A B V T R): ∀s,s<=n->ay T (a+1) true s=false->ay V (a+1) b s=0:=by
 grind[ay,Bq.Inv.nolev]
theorem fD {d:Nat} (g: ∀b∈R,b.1≠d) (k:Nat):d+1 ∉ QL R k:=by
 intro f
 obtain⟨b,a,_,e⟩:=Fv.1 f
 grind
def qy {b a:Nat} (h:Inv n F L m c A B V T R) (hi:b<n) (f:a<256) (d: ∀i∈R,i.1≠b) (j:QL R a=[]):
  Inv n (ay F a (b+1)) (ay L a (b+1)) (ay m (a/64) (m (a/64)|||2^(a%64))) (c+1) (ay A (b+1) 0) (ay B (b+1) 0) (ay V (b+1) a) (ay T (b+1) true) (R++[(b,a)]) where
 ids:=vk h d
 nN:=wy h hi f
 there:=qn h
 jZ:=vX h d
 nolev:=qW h
 ch:=by
  intro k g
  rw[iz]
  split
  ·rename_i e;subst e
   rw[j]
   exact⟨aE _ _ _,aE _ _ _,trivial⟩
  ·refine fW A B _ _ _ _ (fun s l=> ?_) (h.ch k g)
   grind[Bq.fD,ay]
 hd:=by
  grind[Bq.iz,ay,Bq.Inv.hd]
 tl:=by
  grind[Bq.iz,ay,Bq.Inv.tl]
 bit:=by
  intro k g
  rw[iz]
  by_cases e:k=a
  ·grind[ay]
  ·rw[if_neg e]
   grind[aE,Bq.Inv.bit,aq]
 mlt:=by
  grind[aE,Bq.Ot,Bq.Inv.mlt,aq]
 cnt:=by rw[h.cnt];simp
def rF {d lv:Nat} (h:Inv n F L m c A B V T R) (hi:d<n) (l:lv<256) (g: ∀p∈R,p.1≠d) (v:QL R lv≠[]):
  Inv n F (ay L lv (d+1)) m (c+1) (ay A (d+1) (L lv)) (ay (ay B (d+1) 0) (L lv) (d+1)) (ay V (d+1) lv) (ay T (d+1) true) (R++[(d,lv)]) where
 ids:=vk h g
 nN:=wy h hi l
 there:=qn h
 jZ:=vX h g
 nolev:=qW h
 ch:=by
  intro k f
  have i:L lv∈QL R lv:=by grind[Bq.Inv.tl,Bq.gO]
  have u:L lv≠d+1:=fun e=>fD g lv (e▸i)
  rw[iz]
  split
  ·rename_i e;subst e
   refine qo A B _ _ _ _ _ (qx h.ids _) (h.ch k f) ?_ ?_ (fun s j=> ?_) (fun s j=> ?_)
   ·rw[aE];exact h.tl k f
   ·grind[ay]
   ·grind[aq,Bq.fD]
   grind[Bq.Inv.tl,ay,Bq.fD]
  ·rename_i e
   refine fW A B _ _ _ _ (fun s j=> ?_) (h.ch k f)
   have t:s≠d+1:=fun e=>fD g k (e▸j)
   have r:s≠L lv:=by
    rintro rfl
    have a:=(h.gF j).2.2.1
    have b:=(h.gF i).2.2.1
    omega
   grind[ay]
 hd:=by
  intro k f
  rw[iz]
  split
  ·rename_i e;subst e
   rw[h.hd k f]
   cases q:QL R k with
   |nil=>grind
   |cons x o=>rfl
  ·exact h.hd k f
 tl:=by
  grind[Bq.iz,ay,Bq.Inv.tl]
 bit:=by
  intro k f
  rw[iz]
  by_cases e:k=lv
  ·subst e
   rw[if_pos rfl,h.bit k f]
   cases q:QL R k with
   |nil=>grind
   |cons x o=>rfl
  ·rw[if_neg e];exact h.bit k f
 mlt:=h.mlt
 cnt:=by rw[h.cnt];simp
end
def eW (b a:List (Nat×Nat)) (k:Nat):QL (b++a) k=QL b k++QL a k:=by
 unfold QL;simp
def sY (b a:Nat) (R:List (Nat×Nat)) (k:Nat):QL ((b,a)::R) k=if k=a then(b+1)::QL R k else QL R k:=by
 unfold QL
 grind
section
variable {n:Nat} {F L m:Nat->Nat} {c:Nat} {A B V:Nat->Nat} {T:Nat->Bool} {a R2:List (Nat×Nat)} {b lv:Nat}
def JE (h:Inv n F L m (c+1) A B V T (a++(b,lv)::R2)):((a++R2).map (·.1)).Nodup/\(∀d∈a++R2,d.1≠b):=by
 have e:=h.ids
 grind
def o6 (h:Inv n F L m (c+1) A B V T (a++(b,lv)::R2)) (Q P y w v:Nat->Nat)
  (W: ∀k,k<256->Q k=if k=lv/\QL a lv=[] then(QL R2 lv).headD 0 else F k)
  (U: ∀k,k<256->P k=if k=lv/\QL R2 lv=[] then(QL a lv).getLastD 0 else L k)
  (O: ∀s,s≠b+1->w s=if QL R2 lv≠[]/\s=(QL R2 lv).headD 0 then(QL a lv).getLastD 0 else A s)
  (N: ∀s,s≠b+1->v s=if QL a lv≠[]/\s=(QL a lv).getLastD 0 then(QL R2 lv).headD 0 else B s)
  (S: ∀k,k<256->(y (k/64)).testBit (k%64)=if k=lv then !(QL a lv++QL R2 lv).isEmpty else(m (k/64)).testBit (k%64))
  (E: ∀i,i<4->y i<18446744073709551616):
  Inv n Q P y c w v (ay V (b+1) 0) (ay T (b+1) false) (a++R2):=by
 obtain⟨q,I⟩:=JE h
 have M: ∀t,t∈a++R2->t∈a++(b,lv)::R2:=by
  grind
 have G:=(h.nN (b,lv) q_).2
 have u:QL (a++(b,lv)::R2) lv=QL a lv++(b+1)::QL R2 lv:=by rw[eW,sY,if_pos rfl]
 have g: ∀k,k≠lv->QL (a++(b,lv)::R2) k=QL (a++R2) k:=by
  intro k d;rw[eW,sY,if_neg d,eW]
 have j:=qx h.ids lv
 rw[u] at j
 have r:=h.ch lv G
 rw[u] at r
 have p:=j
 rw[List.nodup_append,yV0] at p
 have D: ∀s∈QL a lv,s≠b+1:=fun s f e=>y_
 have C: ∀s∈QL R2 lv,s≠b+1:=fun s f e=>y_
 have J: ∀s∈QL a lv,s ∉ QL R2 lv:=fun s f R=>y_
 refine⟨q,fun t H=>mK,?_,?_,?_,?_,?_,?_,?_,E,?_⟩
 ·grind[ay,Bq.Inv.there]
 ·intro t H
  grind[aq,Bq.Inv.jZ]
 ·grind[ay,Bq.Inv.nolev]
 ·intro k d
  by_cases e:k=lv
  ·subst e
   rw[eW]
   refine l9 A B w v (b+1) (QL R2 k) (QL a k) 0 j r (fun s f=> ?_) (fun s f=> ?_) (fun s f=> ?_) (fun s f=> ?_)
   ·rw[O s (D s f),if_neg]
    grind[Bq.iW]
   ·grind
   ·grind
   ·rw[N s (C s f),if_neg]
    grind[Bq.gO]
  ·rw[<-g k e]
   refine fW A B w v _ _ (fun s f=> ?_) (h.ch k d)
   have hv:=(h.gF f).2.2.1
   have o:s≠b+1:=by
    rintro rfl
    have:=h.jZ (b,lv) q_
    grind
   constructor
   ·rw[O s o,if_neg]
    rintro⟨z,Y⟩
    have l:s∈QL (a++(b,lv)::R2) lv:=by grind[Bq.iW]
    have:=(h.gF l).2.2.1
    omega
   ·rw[N s o,if_neg]
    rintro⟨z,Y⟩
    have l:s∈QL (a++(b,lv)::R2) lv:=by grind[Bq.gO]
    have:=(h.gF l).2.2.1
    omega
 ·intro k d
  rw[W k d]
  by_cases e:k=lv
  ·subst e
   rw[eW]
   by_cases X:QL a k=[]
   ·grind
   ·rw[if_neg y_,h.hd k d,u]
    cases hx:QL a k with
    |nil=>grind
    |cons x Z=>rfl
  ·rw[if_neg z_,h.hd k d,g k e]
 ·intro k d
  rw[U k d]
  by_cases e:k=lv
  ·subst e
   rw[eW]
   by_cases X:QL R2 k=[]
   ·grind
   ·rw[if_neg y_,h.tl k d,u]
    grind
  ·rw[if_neg z_,h.tl k d,g k e]
 ·intro k d
  rw[S k d]
  by_cases e:k=lv
  ·subst e;rw[if_pos rfl,eW]
  ·rw[if_neg e,h.bit k d,g k e]
 ·have:=h.cnt
  grind
end
open Go.RowKit
def pF: ∀(n:Nat) (l:List Nat),l.Nodup->(∀x∈l,x<n)->l.length<=n
 |0,l,_,h=>by
  cases l with
  |nil=>simp
  |cons x b=>exact absurd (h x q_) z_
 |n+1,l,a,h=>by
  have c:=pF n (l.erase n) (a.erase n) y_
  grind
def db (w:World) (b g n:Nat) (R:List (Nat×Nat)):Prop:=
 n<=1024/\ ∃(F L m:Nat->Nat) (c:Nat) (A B V:Nat->Nat) (T:Nat->Bool),aH w b g n F L (fun i=>(m i:Int)) c A B V T/\Inv n F L m c A B V T R
theorem db.kept {w w':World} {b g n:Nat} {R:List (Nat×Nat)} (h:db w b g n R) (f:w'.heap[b]? =w.heap[b]?) (e:w'.heap[g]? =w.heap[g]?):db w' b g n R:=by
 obtain⟨d,F,L,m,c,A,B,V,T,a,hi⟩:=h
 exact⟨d,F,L,m,c,A,B,V,T,a.kept f e,hi⟩
def db.blocks {w:World} {b g n:Nat} {R:List (Nat×Nat)} (h:db w b g n R):b<w.heap.size/\g<w.heap.size/\b≠g:=by
 obtain⟨d,F,L,m,c,A,B,V,T,a,hi⟩:=h
 exact⟨a.cG,a.dO,a.bg⟩
def db.cL {w:World} {b g n:Nat} {R:List (Nat×Nat)} (h:db w b g n R):R.length<=n/\n<=1024:=by
 obtain⟨i,F,L,m,c,A,B,V,T,f,hi⟩:=h
 have:=pF n (R.map (·.1)) hi.ids (fun x e=>by obtain⟨d,a,rfl⟩:=List.mem_map.1 e;exact(hi.nN d a).1)
 grind
def wP (m:Nat->Nat) (k x:Nat):ay (fun i=>(m i:Int)) k (x:Int)=fun i=>((ay m k x i:Nat):Int):=by
 grind[ay]
def Il (w:World) (b g n:Nat) (R:List (Nat×Nat)) (l lv:Nat) (h:db w b g n R) (hi:l<n) (d:lv<256) (j: ∀x∈R,x.1≠l):
  aB 240 #[ak b,aA lv,ab ((l+1:Nat):Int)] w fun e w'=>e=aS #[]/\db w' b g n (R++[(l,lv)])/\aW b g w w':=by
 have t:=h.cL
 obtain⟨p,F,L,m,c,A,B,V,T,s,i⟩:=h
 have y:=i.cnt
 by_cases r:L lv=0
 ·have q:=(i.last_zero lv d).1 r
  refine(BI s lv (l+1) d z_ p z_ r).mono ?_
  rintro e w' ⟨k,f,a⟩
  refine⟨k,⟨p,_,_,ay m (lv/64) (m (lv/64)|||2^(lv%64)),_,_,_,_,_,?_,qy i hi d j q⟩,a⟩
  rw[<-wP,<-BX _ _ (i.mlt _ z_)]
  exact f
 ·have q:QL R lv≠[]:=fun e=>r ((i.last_zero lv d).2 e)
  have o:L lv∈QL R lv:=by grind[Bq.Inv.tl]
  obtain⟨v,_,_,u⟩:=i.gF o
  refine(D9 s lv (l+1) (L lv) d z_ p z_ rfl u v (fun e=>fD j lv (e▸o))).mono ?_
  rintro e w' ⟨k,f,a⟩
  exact⟨k,⟨p,_,_,m,_,_,_,_,_,f,rF i hi d j q⟩,a⟩
def C8 (w:World) (b g n:Nat) (u t:List (Nat×Nat)) (o lv:Nat) (h:db w b g n (u++(o,lv)::t)):
  aB 223 #[ak b,ab ((o+1:Nat):Int)] w fun e w'=>e=aS #[]/\db w' b g n (u++t)/\aW b g w w':=by
 have Z:=h.cL
 obtain⟨y,F,L,m,c',A,B,V,T,O,j⟩:=h
 obtain⟨c,rfl⟩: ∃c,c'=c+1:=⟨c'-1,by have:=j.cnt;grind⟩
 have hc:=j.cnt
 have v:c<=1024:=z_
 have r:=(j.nN (o,lv) q_).2
 have a0:=(j.nN (o,lv) q_).1
 have P:=j.jZ (o,lv) q_
 have I:QL (u++(o,lv)::t) lv=QL u lv++(o+1)::QL t lv:=by rw[eW,sY,if_pos rfl]
 have M:=j.ch lv r
 rw[I] at M
 obtain⟨G,E,_⟩:=rS A B (o+1) (QL t lv) (QL u lv) 0 M
 have Y:=qx j.ids lv
 rw[I,List.nodup_append,yV0] at Y
 have C: ∀s∈QL u lv,s<=n/\1<=s/\s≠o+1:=fun s hs=>by
  obtain⟨a,_,_,d⟩:=j.gF (show s∈QL (u++(o,lv)::t) lv by grind)
  grind
 have z: ∀s∈QL t lv,s<=n/\1<=s/\s≠o+1:=fun s hs=>by
  obtain⟨a,_,_,d⟩:=j.gF (show s∈QL (u++(o,lv)::t) lv by grind)
  grind
 have a1:F lv≠0:=fun e=>by
  have:=(j.xK lv r).1 e
  simp_all
 by_cases N:QL u lv=[]
 ·by_cases H:QL t lv=[]
  ·-- it stands alone
   rw[N] at G
   rw[H] at E
   refine(x9 O (o+1) lv z_ r y v G E P).mono ?_
   rintro e w' ⟨p,l,f⟩
   refine⟨p,⟨y,_,_,ay m (lv/64) (m (lv/64)&&&(18446744073709551615-2^(lv%64))),_,_,_,_,_,?_,o6 j (ay F lv 0) (ay L lv 0) _ (ay A (o+1) 0) (ay B (o+1) 0) ?_ ?_ ?_ ?_ ?_ ?_⟩,f⟩
   ·rw[<-wP,<-xD _ _ (j.mlt _ z_)];exact l
   ·grind[ay]
   ·grind[ay]
   ·grind[ay]
   ·grind[ay]
   ·intro k D
    by_cases q:k=lv
    ·subst q;rw[if_pos rfl,aE,AM _ _ _ z_ z_,N,H];simp
    ·rw[if_neg q]
     by_cases q2:k/64=lv/64
     ·rw[q2,aE,AM _ _ _ z_ z_]
      grind
     grind[ay]
   ·intro i J
    by_cases q:i=lv/64
    ·subst q;rw[aE];exact LF _ _ (j.mlt _ J)
    ·rw[aq _ _ _ _ q];exact j.mlt i J
  ·-- the first one
   rw[N] at G
   obtain⟨S,R,Q⟩:=z _ (iW _ H)
   refine(xQ O (o+1) lv z_ r y v ((QL t lv).headD 0) G E P S R Q).mono ?_
   rintro e w' ⟨p,l,f⟩
   refine⟨p,⟨y,_,_,m,_,_,_,_,_,l,o6 j _ _ _ _ _ ?_ ?_ ?_ ?_ ?_ j.mlt⟩,f⟩
   ·grind[ay]
   ·grind
   ·grind[ay]
   ·grind[ay]
   ·intro k D
    by_cases q:k=lv
    ·subst q
     rw[if_pos rfl,j.bit k D,I]
     grind
    grind
 ·by_cases H:QL t lv=[]
  ·-- the last one
   rw[H] at E
   obtain⟨X,W,U⟩:=C _ (gO _ 0 N)
   refine(xO O (o+1) lv z_ r y v ((QL u lv).getLastD 0) (F lv) G E P rfl z_ X W U).mono ?_
   rintro e w' ⟨p,l,f⟩
   refine⟨p,⟨y,_,_,m,_,_,_,_,_,l,o6 j _ _ _ _ _ ?_ ?_ ?_ ?_ ?_ j.mlt⟩,f⟩
   ·grind
   ·grind[ay]
   ·grind[ay]
   ·grind[ay]
   ·intro k D
    by_cases q:k=lv
    ·subst q
     rw[if_pos rfl,j.bit k D,I]
     grind
    grind
  ·-- one between two others
   obtain⟨X,W,U⟩:=C _ (gO _ 0 N)
   obtain⟨S,R,Q⟩:=z _ (iW _ H)
   refine(BJ O (o+1) lv z_ r y v ((QL u lv).getLastD 0) ((QL t lv).headD 0) (F lv) G E P rfl z_ X W U S R Q).mono ?_
   rintro e w' ⟨p,l,f⟩
   refine⟨p,⟨y,_,_,m,_,_,_,_,_,l,o6 j _ _ _ _ _ ?_ ?_ ?_ ?_ ?_ j.mlt⟩,f⟩
   ·grind
   ·grind
   ·grind[ay]
   ·grind[ay]
   ·intro k D
    by_cases q:k=lv
    ·subst q
     rw[if_pos rfl,j.bit k D,I]
     cases hx:QL u k with
     |nil=>grind
     |cons x xs=>simp
    grind
end Go.Proofs.YtnmhcgpnhlhcgaaGreatDoor.Bq
namespace Go.Proofs.YtnmhcgpnhlhcgaaGreatDoor.Bq
open Go.RowKit Go.Lib
def mh:Value:= .agg #[ab 0,ab 0,aA 0,.bool false]
def dX (n:Nat):Array Value:=madeCells mh.cells ((n+1)*4)
def zeroCells:Array Value:=Array.replicate 512 (ab 0)++(Array.replicate 4 (aj 0)++ #[.slice none 0 0,ab 0])
def cW (g n:Nat):Array Value:=zeroCells.setIfInBounds 516 (.slice (some (ao g)) (n+1) (n+1))
theorem iS:zeroCells.size=518:=by rfl
theorem oX (n k:Nat) (h:k<(n+1)*4):(dX n)[k]? =some ((#[Value.int .i64 0,ab 0,aA 0,.bool false]:Array Value)[k%4]!):=by
 unfold dX madeCells mh
 simp[Value.cells,h]
theorem vV (g n i:Nat) (h:i<512):(cW g n)[i]? =some (ab 0):=by
 unfold cW
 rw[Array.getElem?_setIfInBounds_ne z_]
 grind[Bq.zeroCells,Array.getElem?_append_left]
theorem B8 (g n i:Nat) (h:i<4):(cW g n)[512+i]? =some (aj 0):=by
 unfold cW
 rw[Array.getElem?_setIfInBounds_ne z_]
 unfold zeroCells
 rw[Array.getElem?_append_right q_]
 grind
theorem FO:(Tryz.prog.info? 333).map (fun i=>(i.zero,i.size,i.bytes))=some (some mh,4,24):=by rfl
theorem Oe (w:World):(zeroValue 274).run Tryz.prog w= .ok (.agg zeroCells) w:=by rfl
def jl (w:World) (n:Nat):
  aH ((w.alloc (.cells (dX n) 333)).alloc (.cells (cW w.heap.size n) 274)) (w.heap.size+1) w.heap.size n (fun _=>0) (fun _=>0) (fun _=>((0:Nat):Int)) 0 (fun _=>0) (fun _=>0) (fun _=>0) (fun _=>false):=by
 have b: ∀i,((w.alloc (.cells (dX n) 333)).alloc (.cells (cW w.heap.size n) 274)).cell? (af (w.heap.size+1) i)=(cW w.heap.size n)[i]? :=by
  simp
 have e: ∀i,((w.alloc (.cells (dX n) 333)).alloc (.cells (cW w.heap.size n) 274)).cell? (af w.heap.size i)=(dX n)[i]? :=by
  simp
 have d: ∀i,((w.alloc (.cells (dX n) 333)).alloc (.cells (cW w.heap.size n) 274)).frozen? (af (w.heap.size+1) i)=false:=by
  simp
 have c: ∀i,((w.alloc (.cells (dX n) 333)).alloc (.cells (cW w.heap.size n) 274)).frozen? (af w.heap.size i)=false:=by
  simp
 refine⟨z_,fun i hi=> ?_,fun i hi=> ?_,fun i hi=> ?_,?_,?_,fun s a=> ?_,fun s a=> ?_,fun s a=> ?_,fun s a=> ?_,d,c⟩
 ·grind[Bq.vV]
 ·grind[Bq.vV]
 ·grind[Bq.B8]
 ·exact⟨n+1,by rw[b];rfl⟩
 ·rw[b];rfl
 ·grind[Bq.oX]
 ·grind[Bq.oX]
 ·grind[Bq.oX]
 grind[Bq.oX]
def Io (n:Nat):Inv n (fun _=>0) (fun _=>0) (fun _=>0) 0 (fun _=>0) (fun _=>0) (fun _=>0) (fun _=>false) [] where
 ids:=by simp
 nN:=q_
 there:=q_
 jZ:=q_
 nolev:=q_
 ch:=fun _ _=>trivial
 hd:=fun _ _=>rfl
 tl:=fun _ _=>rfl
 bit:=fun _ _=>by simp[QL]
 mlt:=fun _ _=>by decide
 cnt:=rfl
def ig (n:Nat) (w:World) (l:1<=n) (j:n<=1024):
  aB 114 #[ab n] w fun e w'=>e= .returned (ak (w.heap.size+1))/\db w' (w.heap.size+1) w.heap.size n []/\aC w w':=by
 obtain⟨f,hi,b,a,c⟩:=info_parts FO
 have i: ∀w,(Instr.makeSlice 270 (ab ((n:Int)+1)) (ab ((n:Int)+1))).run Tryz.prog w= .ok (.slice (some (ao w.heap.size)) (n+1) (n+1)) (w.alloc (.cells (dX n) 333)):=by
  intro w
  have:=run_make w 270 333 f mh q_ hi b .i64 .i64 ((n:Int)+1) ((n:Int)+1) z_ z_ y_ z_
  rw[a,show((n:Int)+1).toNat=n+1 by omega] at this
  exact this
 have h:=Oe
 have g:=iS
 have d:=jl w n
 have k:=aa d
 clear d hi b a c
 refine ge ?_
 go_wp2
 go_ret
 refine⟨rfl,⟨j,_,_,fun _=>0,_,_,_,_,_,k.out,Io n⟩,?_⟩
 exact bq.alloc q_ _
def Fe (x:Nat) (h:x<18446744073709551616) (a:x≠0):2^(Lib.bitLen x-1)<=x/\x<2^Lib.bitLen x/\1<=Lib.bitLen x:=by
 exact zv 64 x h z_ a
def Jn (x k:Nat) (h:x<18446744073709551616) (c:x.testBit k=true):x≠0/\k<Lib.bitLen x:=by
 have a:x≠0:=y_
 refine⟨a,?_⟩
 apply Classical.byContradiction
 intro b
 have d:=(Fe x h a).2.1
 grind[Nat.lt_of_lt_of_le,Nat.pow_le_pow_right,Nat.testBit_lt_two_pow]
theorem o9 (x:Nat) (h:x<18446744073709551616) (e:x≠0):x.testBit (Lib.bitLen x-1)=true:=by
 obtain⟨a,b,c⟩:=Fe x h e
 rw[Nat.testBit_eq_decide_div_mod_eq]
 have f:Lib.bitLen x=Lib.bitLen x-1+1:=z_
 rw[f,Nat.pow_succ] at b
 generalize Lib.bitLen x-1=q at*
 have g:=z_
 have d:x/2^q=1:=by apply Nat.div_eq_of_lt_le<;>omega
 grind
def eJ (x:Nat) (h:x<18446744073709551616):rq (x:Int):=⟨z_,z_⟩
def Aw (m:Nat->Nat) (b: ∀i,i<4->m i<18446744073709551616):
  (∀k,k<256->(m (k/64)).testBit (k%64)=true->(k:Int)<=eH (m 0) (m 1) (m 2) (m 3))/\
  (∀k:Nat,k<256->eH (m 0) (m 1) (m 2) (m 3)=(k:Int)->(m (k/64)).testBit (k%64)=true):=by
 have n:=eJ _ (b 0 z_);have l:=eJ _ (b 1 z_);have j:=eJ _ (b 2 z_);have h:=eJ _ (b 3 z_)
 have f:=N9 (m 0) (m 1) (m 2) (m 3) n l j h
 simp only[Int.toNat_natCast] at f
 constructor
 ·intro k o p
  have g:k/64=0\/k/64=1\/k/64=2\/k/64=3:=z_
  obtain⟨d,c⟩:=Jn _ _ y_ p
  grind
 ·intro k o q
  have a:=Ou (m 0) (m 1) (m 2) (m 3) n l j h ((k%64:Nat):Int) z_ z_
  simp only[Int.toNat_natCast] at a
  have g:k/64=0\/k/64=1\/k/64=2\/k/64=3:=z_
  rcases g with e|e|e|e<;>rw[e]
  ·obtain⟨d,c⟩:=a.1 z_
   rw[show k%64=Lib.bitLen (m 0)-1 by omega];grind[Bq.o9]
  ·obtain⟨d,c⟩:=a.2.1 z_
   rw[show k%64=Lib.bitLen (m 1)-1 by omega];grind[Bq.o9]
  ·obtain⟨d,c⟩:=a.2.2.1 z_
   rw[show k%64=Lib.bitLen (m 2)-1 by omega];grind[Bq.o9]
  ·obtain⟨d,c⟩:=a.2.2.2 z_
   rw[show k%64=Lib.bitLen (m 3)-1 by omega];grind[Bq.o9]
def LM (R:List (Nat×Nat)) (a:Nat):Prop:=a<256/\QL R a≠[]/\ ∀k,k<256->a<k->QL R k=[]
def JO {n:Nat} {F L m:Nat->Nat} {c:Nat} {A B V:Nat->Nat} {T:Nat->Bool} {R:List (Nat×Nat)} (h:Inv n F L m c A B V T R) {a:Nat} (b:LM R a):eH (m 0) (m 1) (m 2) (m 3)=(a:Int):=by
 obtain⟨d,p,j⟩:=b
 obtain⟨o,l⟩:=Aw m h.mlt
 have i:=Lf (m 0) (m 1) (m 2) (m 3) mK mK mK mK
 have f:=o a d (by rw[h.bit a d];grind)
 apply Classical.byContradiction
 intro e
 obtain⟨k,g⟩: ∃k:Nat,eH (m 0) (m 1) (m 2) (m 3)=(k:Int):=⟨(eH (m 0) (m 1) (m 2) (m 3)).toNat,z_⟩
 have b:=l k z_ g
 rw[h.bit k z_,j k z_ z_] at b
 grind
def Df {n:Nat} {F L m:Nat->Nat} {c:Nat} {A B V:Nat->Nat} {T:Nat->Bool} (h:Inv n F L m c A B V T []):eH (m 0) (m 1) (m 2) (m 3)= -1:=by
 obtain⟨g,f⟩:=Aw m h.mlt
 have e:=Lf (m 0) (m 1) (m 2) (m 3) mK mK mK mK
 apply Classical.byContradiction
 intro b
 obtain⟨k,d⟩: ∃k:Nat,eH (m 0) (m 1) (m 2) (m 3)=(k:Int):=⟨(eH (m 0) (m 1) (m 2) (m 3)).toNat,z_⟩
 have a:=f k z_ d
 rw[h.bit k z_] at a
 simp[QL] at a
section
variable {w:World} {b g n:Nat} {F L:Nat->Nat} {M:Nat->Int} {c:Nat} {A B V:Nat->Nat} {T:Nat->Bool}
def uY (h:aH w b g n F L M c A B V T):
  aB 234 #[ak b] w fun e a=>e= .returned (.agg #[aj (M 0),aj (M 1),aj (M 2),aj (M 3)])/\ ∃d:Array Value,a=w.alloc (.cells d 272):=by
 have m:=h.msk 0 z_
 have l:=h.msk 1 z_
 have k:=h.msk 2 z_
 have j:=h.msk 3 z_
 have f:=h.cG
 have i: ¬b=w.heap.size:=z_
 clear h
 refine ge ?_
 go_wp2
 simp[bodyPost,results,Tryz.results234,go_sem]
 grind
theorem I2 (h:aH w b g n F L M c A B V T):
  vS 187 #[ak b] w (ab c):=by
 have a:=h.cn
 clear h
 refine ge ?_
 go_wp2
 go_ret
 simp
def dp (h:aH w b g n F L M c A B V T) (a:Nat) (e:n<=1024) (d:a<n):
  vS 221 #[ak b,ab a] w (.bool true):=by
 obtain⟨i,f⟩:=h.sl
 clear h
 refine ge ?_
 go_wp2
 go_ret
 simp
end
def db.below {w w':World} {b g n:Nat} {R:List (Nat×Nat)} (h:db w b g n R) (hw:aC w w'):db w' b g n R:=
 h.kept (hw.block b h.blocks.1) (hw.block g h.blocks.2.1)
def Jz (w:World) (b g n:Nat) (R:List (Nat×Nat)) (d f:Nat) (h:db w b g n R) (hi:d<n) (k:f<256) (l: ∀o∈R,o.1≠d):
  aB 226 #[ak b,aA f,ab d] w fun e w'=>e= .returned (ab 0)/\db w' b g n (R++[(d,f)])/\aW b g w w':=by
 have u:=aa (Il w b g n R d f h hi k l)
 obtain⟨s,F,L,m,c,A,B,V,T,i,p⟩:=h
 have y:=aa (dp i d s hi)
 have q:T (d+1)=false:=by
  cases j:T (d+1) with
  |false=>rfl
  |true=>
   obtain⟨o,a,e⟩:=(p.there (d+1) z_).1 j
   grind
 obtain⟨C,z⟩:=i.sl
 have t:=i.lt (d+1) z_
 rw[q] at t
 clear i p q
 refine ge ?_
 go_wp2_with (first
  |(go_at_call 221;refine(y.out).mono ?_;rintro e w' ⟨rfl,hw⟩;subst hw)
  |(go_at_call 240;refine(u.out).mono ?_;rintro e w' ⟨rfl,j,r⟩;have v:=aa (j);have x:=aa (r);clear j r))
 go_ret
 exact⟨rfl,v.out,x.out⟩
def G1 (w:World) (b g n:Nat) (R:List (Nat×Nat)) (k a:Nat) (i:List Nat) (h:db w b g n R) (q:LM R a) (s:QL R a=(k+1)::i):
  vQ 218 #[ak b] w (.tuple #[aA a,ab k,.bool true]):=by
 obtain⟨J,F,L,m,c,A,B,V,T,l,f⟩:=h
 have p:=JO f q
 have j:=q.1
 have E:=aa (uY l)
 have C:=eJ _ (f.mlt 0 z_);have z:=eJ _ (f.mlt 1 z_);have y:=eJ _ (f.mlt 2 z_);have x:=eJ _ (f.mlt 3 z_)
 have u: ∀w,aB 233 #[.agg #[aj (m 0),aj (m 1),aj (m 2),aj (m 3)]] w fun e o=>e= .returned (ab a)/\ ∃c:Array Value,o=w.alloc (.cells c 272):=by
  grind[Bq.oD]
 have G:=aa (u)
 have r:=l.fst a j
 rw[f.hd a j,s] at r
 have D:w.cell? (af b a)=some (ab ((k:Int)+1)):=r
 have t:=(f.gF (show k+1∈QL R a by grind)).1
 have H:=l.cG
 have I: ¬b=w.heap.size:=z_
 have v: ¬b=w.heap.size+1:=z_
 clear l f p u r C z y x q s
 refine ge ?_
 go_wp2_with (first
  |(go_at_call 234;refine(E.out).mono ?_;rintro e o ⟨rfl,d,hw⟩;subst hw)
  |(go_at_call 233;refine(G.out _).mono ?_;rintro e o ⟨rfl,M,hw⟩;subst hw))
 go_quiet (fail)
 go_wp2
 go_ret3
 exact⟨rfl,below_drewN (bq.alloc q_ _) _⟩
def db.nN {w:World} {b g n:Nat} {R:List (Nat×Nat)} (h:db w b g n R): ∀a∈R,a.1<n/\a.2<256:=by
 obtain⟨f,F,L,m,c,A,B,V,T,e,d⟩:=h
 exact d.nN
def Br (w:World) (b g n:Nat) (h:db w b g n []):
  ∃o l k j:Int,(aB 234 #[ak b] w fun e f=>e= .returned (.agg #[aj o,aj l,aj k,aj j])/\ ∃d:Array Value,f=w.alloc (.cells d 272))/\
   ∀w,aB 233 #[.agg #[aj o,aj l,aj k,aj j]] w fun e f=>e= .returned (ab (-1))/\ ∃d:Array Value,f=w.alloc (.cells d 272):=by
 obtain⟨q,F,L,m,c,A,B,V,T,p,a⟩:=h
 have i:=Df a
 refine⟨m 0,m 1,m 2,m 3,uY p,fun w=> ?_⟩
 have:=oD (m 0) (m 1) (m 2) (m 3) w (eJ _ (a.mlt 0 z_)) (eJ _ (a.mlt 1 z_)) (eJ _ (a.mlt 2 z_)) (eJ _ (a.mlt 3 z_))
 rw[i] at this
 exact this
def Ly (w:World) (b g n:Nat) (R:List (Nat×Nat)) (h:db w b g n R):
  vS 187 #[ak b] w (ab R.length):=by
 obtain⟨e,F,L,m,c,A,B,V,T,d,a⟩:=h
 grind[Bq.Inv.cnt,Bq.I2]
end Go.Proofs.YtnmhcgpnhlhcgaaGreatDoor.Bq
namespace Go.Proofs.YtnmhcgpnhlhcgaaGreatDoor.Bq
open Go.RowKit
section
variable {w:World} {b g n:Nat} {R a c:List (Nat×Nat)} {id lv:Nat}
def db.sl (h:db w b g n R): ∃f,w.cell? (af b 516)=some (.slice (some (ao g)) (n+1) f):=by
 obtain⟨j,F,L,m,d,A,B,V,T,e,i⟩:=h
 exact e.sl
def Nb (h:db w b g n R) (id:Int) (hi:id<0\/(n:Int)<=id):
  vS 221 #[ak b,ab id] w (.bool false):=by
 obtain⟨k,j⟩:=h.sl
 have d:=h.cL.2
 clear h
 by_cases i:id<0
 ·refine ge ?_
  go_wp2
  go_ret
  simp
 ·have f: ¬id<(n:Int):=by omega
  have e:(n:Int)<=id:=z_
  clear hi
  refine ge ?_
  go_wp2
  go_ret
  simp
theorem df (h:db w b g n R) (hi:id<n):
  vS 221 #[ak b,ab id] w (.bool true):=by
 obtain⟨f,F,L,m,d,A,B,V,T,e,i⟩:=h
 exact dp e id f hi
def uk (h:db w b g n R) (id:Int) (hi:id<0\/(n:Int)<=id):
  vS 202 #[ak b,ab id] w (ab 2):=by
 have d:=aa (Nb h id hi)
 clear h hi
 refine ge ?_
 go_wp2_with (go_at_call 221;refine(d.out).mono ?_;rintro e f ⟨rfl,hw⟩;subst hw)
 go_ret
 simp
def db.link (h:db w b g n R) (hi:id<n): ∃(lv:Nat) (t:Bool),w.cell? (af g ((id+1)*4+2))=some (aA lv)/\w.cell? (af g ((id+1)*4+3))=some (.bool t)/\(t=true->(id,lv)∈R)/\(t=false->lv=0/\ ∀i∈R,i.1≠id)/\
  ∃x y:Nat,w.cell? (af g ((id+1)*4))=some (ab x)/\w.cell? (af g ((id+1)*4+1))=some (ab y):=by
 obtain⟨p,F,L,m,d,A,B,V,T,k,j⟩:=h
 refine⟨V (id+1),T (id+1),k.lv (id+1) z_,k.lt (id+1) z_,fun l=> ?_,fun l=> ?_,A (id+1),B (id+1),k.la (id+1) z_,k.lb (id+1) z_⟩
 ·obtain⟨i,f,e⟩:=(j.there (id+1) z_).1 l
  have:=j.jZ i f
  grind
 ·refine⟨j.nolev (id+1) z_ l,fun i o e=> ?_⟩
  have:=(j.there (id+1) z_).2 y_
  grind
def Lx (h:db w b g n (a++(id,lv)::c)) (i:Nat):
  vS 226 #[ak b,aA i,ab id] w (ab 5):=by
 have hi:=(h.nN (id,lv) q_).1
 have j:=aa (df h hi)
 obtain⟨l,t,_,o,_,d,_⟩:=h.link hi
 obtain⟨q,p⟩:=h.sl
 have m:=h.cL.2
 have f:t=true:=by
  cases t with
  |true=>rfl
  |false=>exact absurd rfl ((d rfl).2 (id,lv) q_)
 subst f
 clear h d
 refine ge ?_
 go_wp2_with (go_at_call 221;refine(j.out).mono ?_;rintro e k ⟨rfl,hw⟩;subst hw)
 go_ret
 simp
def oM (h:db w b g n R) (hi:id<n) (d: ∀i∈R,i.1≠id):
  vS 202 #[ak b,ab id] w (ab 6):=by
 have k:=aa (df h hi)
 obtain⟨l,t,_,p,j,_,_⟩:=h.link hi
 obtain⟨r,q⟩:=h.sl
 have o:=h.cL.2
 have f:t=false:=by
  grind
 subst f
 clear h j d
 refine ge ?_
 go_wp2_with (go_at_call 221;refine(k.out).mono ?_;rintro e m ⟨rfl,hw⟩;subst hw)
 go_ret
 simp
def wE (h:db w b g n (a++(id,lv)::c)):
  aB 202 #[ak b,ab id] w fun e w'=>e= .returned (ab 0)/\db w' b g n (a++c)/\aW b g w w':=by
 have hi:=(h.nN (id,lv) q_).1
 have p:=aa (df h hi)
 have k:=aa (C8 w b g n a c id lv h)
 obtain⟨l,t,_,r,_,d,_⟩:=h.link hi
 obtain⟨u,s⟩:=h.sl
 have q:=h.cL.2
 have j:t=true:=by
  cases t with
  |true=>rfl
  |false=>exact absurd rfl ((d rfl).2 (id,lv) q_)
 subst j
 clear h d
 refine ge ?_
 go_wp2_with (first
  |(go_at_call 221;refine(p.out).mono ?_;rintro e w' ⟨rfl,hw⟩;replace hw:=hw.symm;subst hw)
  |(go_at_call 223;refine(k.out).mono ?_;rintro e w' ⟨rfl,f,i⟩;have m:=aa f;have o:=aa i;clear f i))
 go_ret
 exact⟨rfl,m.out,o.out⟩
def pQ (h:db w b g n R) (hi:id<n) (f: ∀j∈R,j.1≠id):
  vQ 200 #[ak b,ab id] w (.tuple #[aA 0,.bool false]):=by
 have m:=aa (df h hi)
 obtain⟨l,t,s,u,k,d,x,y,r,q⟩:=h.link hi
 obtain⟨z,v⟩:=h.sl
 have p:=h.cL.2
 have i:t=false:=by
  grind
 subst i
 obtain⟨rfl,_⟩:=d rfl
 clear h k f d
 refine ge ?_
 go_wp2_with (go_at_call 221;refine(m.out).mono ?_;rintro e o ⟨rfl,hw⟩;replace hw:=hw.symm;subst hw)
 go_quiet (fail)
 go_wp2
 go_ret2
 exact⟨rfl,below_drewN bq _⟩
def yu (h:db w b g n (a++(id,lv)::c)):
  vQ 200 #[ak b,ab id] w (.tuple #[aA lv,.bool true]):=by
 have hi:=(h.nN (id,lv) q_).1
 have r:=aa (df h hi)
 obtain⟨l,t,C,D,j,f,x,y,z,v⟩:=h.link hi
 obtain⟨G,E⟩:=h.sl
 have o:=h.cL.2
 have k:t=true:=by
  cases t with
  |true=>rfl
  |false=>exact absurd rfl ((f rfl).2 (id,lv) q_)
 subst k
 have q:l=lv:=by
  have p:=j rfl
  obtain⟨o,F,L,m,d,A,B,V,T,u,i⟩:=h
  have I:=i.jZ _ p
  have H:=i.jZ (id,lv) q_
  grind
 subst q
 clear h j f
 refine ge ?_
 go_wp2_with (go_at_call 221;refine(r.out).mono ?_;rintro e s ⟨rfl,hw⟩;replace hw:=hw.symm;subst hw)
 go_quiet (fail)
 go_wp2
 go_ret2
 exact⟨rfl,below_drewN bq _⟩
end
end Go.Proofs.YtnmhcgpnhlhcgaaGreatDoor.Bq
namespace Go.Proofs.YtnmhcgpnhlhcgaaGreatDoor.Bq
open Go.RowKit Go.Lib
theorem db.ids {w:World} {b g n:Nat} {R:List (Nat×Nat)} (h:db w b g n R):(R.map (·.1)).Nodup:=by
 obtain⟨e,F,L,m,c,A,B,V,T,d,a⟩:=h
 exact a.ids
def GK (w:World) (b g n:Nat) (h:db w b g n []):
  vQ 218 #[ak b] w (.tuple #[aA 0,ab 0,.bool false]):=by
 obtain⟨o,m,l,k,a,c⟩:=Br w b g n h
 have i:=aa a
 have j:=aa c
 clear a c h
 refine ge ?_
 go_wp2_with (first
  |(go_at_call 234;refine(i.out).mono ?_;rintro e f ⟨rfl,d,hw⟩;subst hw)
  |(go_at_call 233;refine(j.out _).mono ?_;rintro e f ⟨rfl,p,hw⟩;subst hw))
 go_ret3
 exact⟨rfl,bq.alloc q_ _⟩
end Go.Proofs.YtnmhcgpnhlhcgaaGreatDoor.Bq
namespace Go.Proofs.YtnmhcgpnhlhcgaaGreatDoor.Ke
open Go.ChangeShapes Go.WideShapes Go.ChangeAt Go.RowKit Go.Deep
section
variable {H:Type} {enc:TypeId×Value->H} {w:World} {b:Nat} {a:Nat->Bool} {c:Bool}
end
end Go.Proofs.YtnmhcgpnhlhcgaaGreatDoor.Ke
namespace Go.Proofs.YtnmhcgpnhlhcgaaGreatDoor.Ke
open Go.ChangeShapes Go.WideShapes Go.ChangeAt Go.RowKit
structure K where
 e:Bool
 d:Int
 l:Int
deriving DecidableEq
def K.ok (k:K):Prop:=(0<=k.d/\k.d<18446744073709551616)/\0<=k.l/\k.l<256
def up (a b:K):Bool:=if a.e !=b.e then a.e else if a.e then decide (a.d<b.d) else decide (b.l<a.l)
def bP (l:Int):K:=⟨false,0,l⟩
def du (d:Int):K:=⟨true,d,0⟩
def aN (k:K):Bool:=if k.e then k.l==0 else k.d==0
def ir (a b:K):K:=if up b a then b else a
def same (a b:K):Bool:=a.e==b.e&&a.d==b.d&&a.l==b.l
@[go_sem] theorem NT (b : Int) (w : World) : (Instr.build 120 #[(2, aA b)]).run Tryz.prog w = .ok (.agg #[.bool false, aj 0, aA b]) w := run_build w 120 _ _ (by rfl)
@[go_sem] theorem ND (e : Bool) (d : Int) (w : World) : (Instr.build 120 #[(0, .bool e), (1, aj d)]).run Tryz.prog w = .ok (.agg #[.bool e, aj d, aA 0]) w := run_build w 120 _ _ (by rfl)
def Oc (e b:Bool) (d c l a:Int) (w:World):(Op.equalIn 10000 120 (.agg #[.bool e,aj d,aA l]) (.agg #[.bool b,aj c,aA a])).run Tryz.prog w= .ok (e==b&&d==c&&l==a) w:=by
 have m:=Tryz.underlying25
 have p:=Tryz.isAgg25
 have i:=Tryz.sizeOf25
 have k:=Tryz.underlying4
 have o:=Tryz.isAgg4
 have h:=Tryz.sizeOf4
 have j:=Tryz.underlying5
 have n:=Tryz.isAgg5
 have g:=Tryz.sizeOf5
 have f:Tryz.prog.underlying 120=some (.struct (Tryz.prog.fieldsOf 120)):=by rfl
 rw[show(10000:Nat)=9999+1 from rfl,run_equalIn_agg w 9999 120 _ _ f (by rfl)]
 simp only[Program.fieldsOf,Tryz.underlying120]
 go_simp
 grind
@[go_sem high] theorem QF (a b : K) (w : World) : (Op.equal 120 (.agg #[.bool a.e, aj a.d, aA a.l]) (.agg #[.bool b.e, aj b.d, aA b.l])).run Tryz.prog w = .ok (same a b) w := Oc _ _ _ _ _ _ w
@[go_sem high] theorem QH (a b : K) (w : World) : (binOp .eql 120 (.agg #[.bool a.e, aj a.d, aA a.l]) (.agg #[.bool b.e, aj b.d, aA b.l])).run Tryz.prog w = .ok (.bool (same a b)) w := by
 simp[binOp,go_sem]
theorem Nf (w:World) (c b:Array Value) (t a:TypeId):aC w ((w.alloc (.cells c t)).alloc (.cells b a)):=bq.alloc q_ _
def pL (w:World) (l:Int):vQ 68 #[aA l] w (.agg #[.bool (bP l).e,aj (bP l).d,aA (bP l).l]):=by
 refine ge ?_
 go_wp2
 simp[bodyPost,results,Tryz.results68,go_sem,bP]
 exact bq
def tN (w:World) (d:Int):vQ 131 #[aj d] w (.agg #[.bool (du d).e,aj (du d).d,aA (du d).l]):=by
 refine ge ?_
 go_wp2
 simp[bodyPost,results,Tryz.results131,go_sem,du]
 exact bq
def wo (w:World) (a b:K):aB 119 #[.agg #[.bool a.e,aj a.d,aA a.l],.agg #[.bool b.e,aj b.d,aA b.l]] w fun e c=>e= .returned (.bool (up a b))/\ ∃h g,c=(w.alloc (.cells h 120)).alloc (.cells g 120):=by
 unfold up
 refine ge ?_
 cases i:a.e<;>cases f:b.e<;>(go_wp2;go_ret;exact⟨q_,_,_,rfl⟩)
def pY (w:World) (a b:K):vQ 119 #[.agg #[.bool a.e,aj a.d,aA a.l],.agg #[.bool b.e,aj b.d,aA b.l]] w (.bool (up a b)):=
 (wo w a b).mono fun e c ⟨h,g,f,hw⟩=>⟨h,by grind[Ke.Nf]⟩
def At (w:World) (b:Nat) (k:K):Prop:=w.cell? (ao b)=some (.bool k.e)/\w.cell? (af b 1)=some (aj k.d)/\w.cell? (af b 2)=some (aA k.l)
def At.below {w w':World} {b:Nat} {k:K} (h:At w b k) (a:aC w w'):At w' b k:=
 ⟨(a.cell (i7 w _ h.1)).trans h.1,(a.cell (i7 w _ h.2.1)).trans h.2.1,(a.cell (i7 w _ h.2.2)).trans h.2.2⟩
def KL {a w w':World} {b:Nat} {k:K} (h:w.cell? (ao b)=some (.bool k.e)/\w.cell? (af b 1)=some (aj k.d)/\w.cell? (af b 2)=some (aA k.l)/\aC a w) (c:aC w w'):
  w'.cell? (ao b)=some (.bool k.e)/\w'.cell? (af b 1)=some (aj k.d)/\w'.cell? (af b 2)=some (aA k.l)/\aC a w':=by
 obtain⟨j,i,g,f⟩:=h
 have:=At.below ⟨j,i,g⟩ c
 exact⟨this.1,this.2.1,this.2.2,f.trans (c.mono f.size)⟩
def MH (w:World) (k:K) (t:TypeId):At (w.alloc (.cells #[.bool k.e,aj k.d,aA k.l] t)) w.heap.size k:=by
 refine⟨?_,?_,?_⟩<;>(simp)
def He (w:World) (k:K) (t:TypeId):(w.alloc (.cells #[.bool k.e,aj k.d,aA k.l] t)).drew.cell? (ao w.heap.size)=some (.bool k.e)/\(w.alloc (.cells #[.bool k.e,aj k.d,aA k.l] t)).drew.cell? (af w.heap.size 1)=some (aj k.d)/\(w.alloc (.cells #[.bool k.e,aj k.d,aA k.l] t)).drew.cell? (af w.heap.size 2)=some (aA k.l)/\aC w (w.alloc (.cells #[.bool k.e,aj k.d,aA k.l] t)).drew:=
 ⟨q_,q_,q_,bq.drew⟩
def OG {a w:World} {p q r:Prop} (h:p/\q/\r/\aC a w):aC a w:=h.2.2.2
def Ay (a b:K):same a b=decide (a=b):=by
 obtain⟨e,d,l⟩:=a
 obtain⟨f,g,c⟩:=b
 unfold same
 grind
def iQ (k:K) (a:same k (bP k.l)=true):aN k=true:=by
 grind[Ke.aN,Ke.same,Ke.bP]
def mi (k:K) (a:same k (bP k.l)=false):same k (du k.d)=aN k:=by
 unfold aN
 cases b:k.e<;>simp[same,bP,du,b] at a|-
 exact a
def cf (w:World) (k:K):vQ 129 #[.agg #[.bool k.e,aj k.d,aA k.l]] w (.bool (aN k)):=by
 have h:=aa pL
 have j:=aa tN
 by_cases c:same k (bP k.l)=true
 ·have f:=aa (iQ k c)
  refine ge ?_
  go_wp2
  refine wp_region_held_drew (S:=(fun a=>a.cell? (ao w.heap.size)=some (.bool k.e)/\a.cell? (af w.heap.size 1)=some (aj k.d)/\a.cell? (af w.heap.size 2)=some (aA k.l)/\aC w a)) (by rfl) ?_ (fun hHeld=> ?_)
  ·exact He _ _ _
  refine st ?_
  repeat' first
   |refine dn ?_
   |refine tk ?_
   |refine rd ?_
   |exact oA
   |refine oE ?_
   |refine oC ?_ ?_
   | (refine dU 3 (fun K g=> ?_)
      go_simp
      refine(h.out _ _).mono ?_
      rintro e i ⟨rfl,b⟩
      go_wp2_with fail
      refine g.out _ _ ?_ (fun hHeld=> ?_)
      ·exact KL z_ b
      clear g K
      try simp only[cV])
  refine⟨?_⟩
  go_wp2
  go_ret
  exact⟨by rw[f.out];rfl,OG (by assumption)⟩
 simp only[Bool.not_eq_true] at c
 have f:=aa (mi k c)
 refine ge ?_
 go_wp2
 go_region_held3 (fun a=>a.cell? (ao w.heap.size)=some (.bool k.e)/\a.cell? (af w.heap.size 1)=some (aj k.d)/\a.cell? (af w.heap.size 2)=some (aA k.l)/\aC w a)
  (first|exact He _ _ _|exact KL z_ b)
  (first
   |(go_at_call 68;refine(h.out _ _).mono ?_;rintro e i ⟨rfl,b⟩)
   |(go_at_call 131;refine(j.out _ _).mono ?_;rintro e m ⟨rfl,b⟩))
 go_wp2
 go_ret
 exact⟨by rw[f.out];rfl,OG (by assumption)⟩
end Go.Proofs.YtnmhcgpnhlhcgaaGreatDoor.Ke
namespace Go.Proofs.YtnmhcgpnhlhcgaaGreatDoor
abbrev bn (k:Ke.K):Array Value:= #[.bool k.e,.int .u64 k.d,.int .u8 k.l]
abbrev En:=Nat×Ke.K
def put (x:En):List En->List En
 |[]=>[x]
 |y::M=>if Ke.up x.2 y.2 then x::y::M else y::put x M
def cut (id:Nat) (M:List En):List En:=M.filter (fun y=>y.1 !=id)
def ri (x:En): ∀(A B:List En),(∀y∈A,Ke.up x.2 y.2=false)->put x (A++B)=A++put x B
 |[],_,_=>rfl
 |y::A,B,h=>by
  have e:=h y q_
  simp only[List.cons_append,put,e]
  rw[ri x A B y_]
  rfl
def wv (x:En): ∀(B:List En),(∀y∈B,Ke.up x.2 y.2=true)->put x B=x::B
 |[],_=>rfl
 |y::B,h=>by simp[put,h y q_]
def Fc {M:List En} {a:Nat} (h: ∀y∈M,y.1≠a):cut a M=M:=by
 grind[cut,List.filter_eq_self]
theorem qB {y:En} {M:List En} (h:((y::M).map (·.1)).Nodup):cut y.1 (y::M)=M:=by
 rw[List.map_cons,yV0] at h
 unfold cut
 rw[List.filter_cons_of_neg q_]
 exact Fc y_
theorem AX {M:List En} (h:(M.map (·.1)).Nodup) {a b:En} (c:a∈M) (f:b∈M) (e:a.1=b.1):a=b:=by
 induction M with
 |nil=>cases c
 |cons y M d=>
  grind
def fh {x y:En}: ∀{M:List En},y∈put x M↔y=x\/y∈M
 |[]=>by simp[put]
 |z::M=>by
  unfold put
  split
  ·simp
  ·rw[List.mem_cons,fh,List.mem_cons]
   grind
def mT {x:En}: ∀{M:List En},(put x M).length=M.length+1
 |[]=>rfl
 |z::M=>by
  unfold put
  split
  ·simp
  ·simp[mT]
def qC {x:En}: ∀{M:List En},(M.map (·.1)).Nodup->(∀y∈M,y.1≠x.1)->((put x M).map (·.1)).Nodup
 |[],_,_=>by simp[put]
 |z::M,h,b=>by
  unfold put
  split
  ·grind
  ·rw[List.map_cons,yV0] at h|-
   refine⟨fun q=> ?_,qC h.2 y_⟩
   obtain⟨y,a,e⟩:=List.mem_map.1 q
   rcases fh.1 a with rfl|a
   ·grind
   grind
def Gw {M:List En} {a:Nat} (h:(M.map (·.1)).Nodup):((cut a M).map (·.1)).Nodup:=
 List.Nodup.sublist (List.Sublist.map _ List.filter_sublist) h
def ku {M:List En} {id:Nat} {y:En}:y∈cut id M↔y∈M/\y.1≠id:=by simp[cut]
def my {a:Nat} {k:Ke.K}: ∀{M:List En},(M.map (·.1)).Nodup->(a,k)∈M->(cut a M).length+1=M.length
 |[],_,h=>by cases h
 |y::M,b,h=>by
  by_cases e:y.1=a
  ·rw[<-e,qB b];simp
  ·rw[List.map_cons,yV0] at b
   have:cut a (y::M)=y::cut a M:=by unfold cut;grind
   rw[this]
   have c:(a,k)∈M:=by
    grind
   have:=my b.2 c
   grind
def keyOf (M:List En) (id:Nat):Option Ke.K:=(M.find? (fun y=>y.1==id)).map (·.2)
def fI {M:List En} {a:Nat} {k:Ke.K} (h:(M.map (·.1)).Nodup):keyOf M a=some k↔(a,k)∈M:=by
 unfold keyOf
 constructor
 ·intro q
  cases b:M.find? (fun y=>y.1==a) with
  |none=>grind
  |some y=>
   grind
 ·intro q
  cases b:M.find? (fun y=>y.1==a) with
  |none=>
   grind
  |some y=>
   grind[AX]
def cw {M:List En} {id:Nat}:keyOf M id=none↔ ∀y∈M,y.1≠id:=by
 unfold keyOf
 simp
end Go.Proofs.YtnmhcgpnhlhcgaaGreatDoor
namespace Go.Proofs.YtnmhcgpnhlhcgaaGreatDoor.Ex
open Go.RowKit Go.Lib Go.Deep Go.ChangeShapes Go.WideShapes Go.ChangeAt
def info_parts {P:Program} {e:TypeId} {z:Value} {n m:Nat} (h:(P.info? e).map (fun i=>(i.zero,i.size,i.bytes))=some (some z,n,m)): ∃i,P.info? e=some i/\i.zero=some z/\i.size=n/\i.bytes=m:=by
 simp_all
end Go.Proofs.YtnmhcgpnhlhcgaaGreatDoor.Ex
namespace Go.Proofs.YtnmhcgpnhlhcgaaGreatDoor.Ex
open Go.RowKit Go.Lib
def NX (b a pl:Int):Int:=if b=8 then a else if b=9 then pl else pl+1
def NB (b a left:Int):Int:=if b=1 then a else left
def Kj (w:World) (a:Option Addr) (b d:Nat) (c:b<9223372036854775808) (O R:Nat->Int) (f:lJ w a b O R) (pl:Int) (g:Rt b O R) (l:0<=pl) (k:pl<b):
  vQ 162 #[.slice a b d,ab pl] w (.bool true):=by
 obtain⟨y,e⟩:=g
 have h:=aa (fO w a b d c O R f 0 y e)
 clear e f
 refine ge ?_
 go_wp2_with (go_at_call 51;refine cH h.out fun j i=> ?_)
 go_ret
 exact⟨rfl,i.out⟩
def MY (w:World) (a:Option Addr) (b f:Nat) (e:b<9223372036854775808) (O R:Nat->Int) (h:lJ w a b O R) (pl:Int) (i: ¬(Rt b O R/\0<=pl/\pl<b)):
  vQ 162 #[.slice a b f,ab pl] w (.bool false):=by
 obtain⟨x,y,c⟩:=r7 b O R
 have j:=aa (fO w a b f e O R h x y c)
 by_cases n:x=0
 ·subst n
  have d: ¬(0<=pl/\pl<b):=fun q=>i ⟨⟨y,c⟩,q⟩
  clear i c h
  by_cases l:0<=pl
  ·have p: ¬pl<(b:Int):=fun q=>d ⟨l,q⟩
   have o:=yU0 p
   clear d
   refine ge ?_
   go_wp2_with (go_at_call 51;refine cH j.out fun k g=> ?_)
   go_ret
   exact⟨rfl,g.out⟩
  ·have r:=yU0 l
   clear d
   refine ge ?_
   go_wp2_with (go_at_call 51;refine cH j.out fun k g=> ?_)
   go_ret
   exact⟨rfl,g.out⟩
 ·have m:(x==0)=false:=by grind
  clear c i h
  refine ge ?_
  go_wp2_with (go_at_call 51;refine cH j.out fun k g=> ?_)
  go_ret
  exact⟨rfl,g.out⟩
def C7 (w:World) (b a pl left:Int) (g:0<=pl) (f:pl<9223372036854775807):
  vQ 163 #[.agg #[ab b,ab a],.agg #[ab pl,ab left]] w (.agg #[ab (NX b a pl),ab (NB b a left)]):=by
 by_cases e:b=8
 ·subst e
  refine ge ?_
  go_wp2
  refine bodyPost_ret (v:= .agg #[ab a,ab left]) ?_ rfl ⟨?_,?_⟩
  ·simp[results,Tryz.f163,go_sem]
  ·rfl
  ·exact(bq.alloc q_ _).alloc (by simp;omega) _
 by_cases d:b=9
 ·subst d
  refine ge ?_
  go_wp2
  refine bodyPost_ret (v:= .agg #[ab pl,ab left]) ?_ rfl ⟨?_,?_⟩
  ·simp[results,Tryz.f163,go_sem]
  ·rfl
  ·exact(bq.alloc q_ _).alloc (by simp;omega) _
 by_cases c:b=1
 ·subst c
  refine ge ?_
  go_wp2
  refine bodyPost_ret (v:= .agg #[ab (pl+1),ab a]) ?_ rfl ⟨?_,?_⟩
  ·simp[results,Tryz.f163,go_sem]
  ·rfl
  ·exact(bq.alloc q_ _).alloc (by simp;omega) _
 ·have i:(b==8)=false:=by grind
  have h:(b==9)=false:=y_
  have j:(b==1)=false:=y_
  refine ge ?_
  go_wp2
  refine bodyPost_ret (v:= .agg #[ab (pl+1),ab left]) ?_ rfl ⟨?_,?_⟩
  ·simp[results,Tryz.f163,go_sem]
  ·simp[NX,NB,e,d,c]
  ·exact(bq.alloc q_ _).alloc (by simp;omega) _
def Cf (w:World) (a:Option Addr) (b c:Nat) (pl left:Int) (h:0<left):
  vQ 125 #[.slice a b c,.agg #[ab pl,ab left]] w (.tuple #[.agg #[ab 0,ab 0],.agg #[ab pl,ab left],.bool true]):=by
 refine ge ?_
 go_wp2
 go_region_held3 (fun d=>d.cell? (ao w.heap.size)=some (ab pl)/\d.cell? (af w.heap.size 1)=some (ab left))
  (first|go_keep)
  (fail)
 go_wp2
 refine bodyPost_ret (v:= .tuple #[.agg #[ab 0,ab 0],.agg #[ab pl,ab left],.bool true]) ?_ rfl ⟨rfl,?_⟩
 ·simp[results,Tryz.f125,go_sem]
 ·exact((bq.alloc q_ _).alloc (by simp;omega) _).drew
def lO (w:World) (pl left:Int) (hw:left<9223372036854775808):
  vQ 89 #[.agg #[ab pl,ab left]] w (.agg #[ab pl,ab (if 0<left then left-1 else left)]):=by
 by_cases h:0<left
 ·rw[if_pos h]
  refine ge ?_
  go_wp2
  refine bodyPost_ret (v:= .agg #[ab pl,ab (left-1)]) ?_ rfl ⟨rfl,?_⟩
  ·simp[results,Tryz.f89,go_sem]
  ·exact bq.alloc q_ _
 ·rw[if_neg h]
  refine ge ?_
  go_wp2
  refine bodyPost_ret (v:= .agg #[ab pl,ab left]) ?_ rfl ⟨rfl,?_⟩
  ·simp[results,Tryz.f89,go_sem]
  ·exact bq.alloc q_ _
def ox (w w1:World) (d c b a h g:Value) (f e i:Nat)
  (j:Below (((w.alloc (.cells #[d,c] f)).alloc (.cells #[b,a] e)).alloc (.cells #[h,g] i)).heap.size (((w.alloc (.cells #[d,c] f)).alloc (.cells #[b,a] e)).alloc (.cells #[h,g] i)) w1):
  w1.heap[w.heap.size]? =some (.cells #[d,c] f (0,0))/\w1.heap[w.heap.size+1]? =some (.cells #[b,a] e (0,0))/\w1.heap[w.heap.size+1+1]? =some (.cells #[h,g] i (0,0))/\aC w w1:=by
 refine⟨?_,?_,?_,?_⟩
 ·rw[j.block _ (by simp;omega),zU0 _ _ _ (by simp;omega),zU0 _ _ _ q_]
  exact(MapKept.heap_alloc w _).1
 ·rw[j.block _ q_,zU0 _ _ _ q_]
  have:=(MapKept.heap_alloc (w.alloc (.cells #[d,c] f)) (.cells #[b,a] e)).1
  simp_all
 ·rw[j.block _ q_]
  have:=(MapKept.heap_alloc ((w.alloc (.cells #[d,c] f)).alloc (.cells #[b,a] e)) (.cells #[h,g] i)).1
  simp_all
 ·exact(bq.alloc q_ _).alloc (by simp;omega) _|>.trans (j.mono (by simp;omega))
def gK {w:World} {b:Nat} {c a:Value} {t:Nat} (h:w.heap[b]? =some (.cells #[c,a] t (0,0))):
  w.cell? (ao b)=some c/\w.cell? (af b 1)=some a/\w.frozen? (ao b)=false/\w.frozen? (af b 1)=false:=by
 refine⟨?_,?_,?_,?_⟩
 ·unfold World.cell?;grind
 ·unfold World.cell?;grind
 ·unfold World.frozen?;grind
 ·unfold World.frozen?;grind
def uq (w:World) (a:Option Addr) (b f:Nat) (c:b<9223372036854775808) (O R:Nat->Int) (i:lJ w a b O R) (pl left:Int) (u: ¬0<left) (j: ¬(Rt b O R/\0<=pl/\pl<b)):
  vQ 125 #[.slice a b f,.agg #[ab pl,ab left]] w (.tuple #[.agg #[ab 9,ab 0],.agg #[ab pl,ab left],.bool false]):=by
 have n:=aa (fun h (g:aC w h)=>MY h a b f c O R (i.below g) pl j)
 clear i j
 refine ge ?_
 go_wp2_with (go_at_call 162;refine(n.out _ ((bq.alloc q_ _).alloc (by simp;omega) _)).mono ?_;rintro e h ⟨rfl,g⟩;obtain⟨m,l,k,d⟩:=ox _ _ _ _ _ _ _ _ _ _ _ g;obtain⟨E,D,C,B⟩:=gK m;obtain⟨s,r,A,z⟩:=gK l;obtain⟨q,o,y,x⟩:=gK k;have t:=aa d;clear g d n m l k)
 go_region
 go_wp2
 refine bodyPost_ret (v:= .tuple #[.agg #[ab 9,ab 0],.agg #[ab pl,ab left],.bool false]) ?_ rfl ⟨rfl,?_⟩
 ·simp[results,Tryz.f125,go_sem,s,r,q,o]
 ·exact((((t.out.setCell (p:=(ao (w.heap.size+1))) q_ _).setCell (p:=(af (w.heap.size+1) 1)) q_ _).setCell (p:=(ao (w.heap.size+1+1))) y_ _).setCell (p:=(af (w.heap.size+1+1) 1)) y_ _).drew
def Pb (W:World) (b:Nat) (g f e d c a:Value):Prop:=
 (W.cell? (ao b)=some g/\W.cell? (af b 1)=some f/\W.cell? (ao (b+1))=some e/\W.cell? (af (b+1) 1)=some d/\W.cell? (ao (b+1+1))=some c/\W.cell? (af (b+1+1) 1)=some a)/\
 W.frozen? (ao (b+1))=false/\W.frozen? (af (b+1) 1)=false/\W.frozen? (ao (b+1+1))=false/\W.frozen? (af (b+1+1) 1)=false
def Pb.below {W W':World} {b:Nat} {f e d c a z1:Value} (h:Pb W b f e d c a z1) (i:aC W W'):Pb W' b f e d c a z1:=by
 obtain⟨⟨q,o,n,m,k,j⟩,w,u,t,s⟩:=h
 have l: ∀{p:Addr} {v:Value},W.cell? p=some v->W'.cell? p=some v:=fun {p v} h=>(i.cell (i7 W p h)).trans h
 have g: ∀{p:Addr} {v:Value},W.cell? p=some v->W.frozen? p=false->W'.frozen? p=false:=fun {p v} h r=>(i.frozen (i7 W p h)).trans r
 exact⟨⟨l q,l o,l n,l m,l k,l j⟩,g n w,g m u,g k t,g j s⟩
def Rt.at {a:Nat} {O R:Nat->Int} (h:Rt a O R):a<=64:=by
 obtain⟨y,b⟩:=h
 exact b.zero.2.1
theorem D4 (w:World) (a:Option Addr) (len l:Nat) (O R:Nat->Int) (n:lJ w a len O R) (j:Nat) (left:Int) (hl: ¬0<left) (m:Rt len O R) (C:j<len):
  Calls Tryz.prog 125 #[.slice a len l,.agg #[.int .i64 j,.int .i64 left]] w fun e w'=>e= .returned (.tuple #[.agg #[.int .i64 (O j),.int .i64 (R j)],.agg #[.int .i64 (NX (O j) (R j) j),.int .i64 (NB (O j) (R j) left)],.bool false])/\Below w.heap.size w w':=by
 have P:=m.at
 have I:=aa (fun c (d:Below w.heap.size w c)=>Kj c a len l z_ O R (n.below d) j m z_ z_)
 have V:=aa (fun c=>C7 c (O j) (R j) j left z_ z_)
 have H:Hid (∀c,Below w.heap.size w c-> ∃f b,a=some ⟨f,b,none⟩/\f<w.heap.size/\c.cell? ⟨f,b+j*2,none⟩=some (.int .i64 (O j))/\c.cell? ⟨f,b+j*2+1,none⟩=some (.int .i64 (R j))):=by
  intro c d
  rcases n with h0|⟨f,b,rfl,g,D⟩
  ·omega
  ·exact⟨f,b,rfl,g,(d.cell (p:=⟨f,b+j*2,none⟩) g).trans (D j C).1,(d.cell (p:=⟨f,b+j*2+1,none⟩) g).trans (D j C).2⟩
 have N:(j:Int)<len:=z_
 clear n m
 refine ge ?_
 go_wp2_with (go_at_call 162;refine(I.out _ ((bq.alloc q_ _).alloc (by simp;omega) _)).mono ?_;rintro e c ⟨rfl,d⟩;obtain⟨G,F,E,h⟩:=ox _ _ _ _ _ _ _ _ _ _ _ d;obtain⟨A,z,S,Q⟩:=gK G;obtain⟨y,x,s,r⟩:=gK F;obtain⟨u,t,q,o⟩:=gK E;obtain⟨f,b,rfl,g,M,L⟩:=H.out _ h;have Z: ¬f=w.heap.size+1:=z_;have J:=aa h;clear d h I H G F E)
 have B:Pb ((c.setCell ⟨w.heap.size+1,0,none⟩ (.int .i64 (O j))).setCell ⟨w.heap.size+1,1,none⟩ (.int .i64 (R j))) w.heap.size (.int .i64 j) (.int .i64 left) (.int .i64 (O j)) (.int .i64 (R j)) (.int .i64 0) (.int .i64 0):=by
  refine⟨⟨?_,?_,?_,?_,?_,?_⟩,?_,?_,?_,?_⟩<;>simp[go_sem,A,z,y,x,u,t,s,r,q,o]
 have i:Hid (Below w.heap.size w ((c.setCell ⟨w.heap.size+1,0,none⟩ (.int .i64 (O j))).setCell ⟨w.heap.size+1,1,none⟩ (.int .i64 (R j)))):=(J.out.setCell (p:=⟨w.heap.size+1,0,none⟩) q_ _).setCell (p:=⟨w.heap.size+1,1,none⟩) q_ _
 clear A z y x u t S Q s r q o M L J
 generalize (c.setCell ⟨w.heap.size+1,0,none⟩ (.int .i64 (O j))).setCell ⟨w.heap.size+1,1,none⟩ (.int .i64 (R j))=W at B i|-
 have Y:=aa B
 obtain⟨⟨A,z,y,x,u,t⟩,s,r,q,o⟩:=B
 go_region_held3 (fun w'=>w'.cell? ⟨w.heap.size,0,none⟩=some (.int .i64 j)/\w'.cell? ⟨w.heap.size,1,none⟩=some (.int .i64 left)/\w'.cell? ⟨w.heap.size+1,0,none⟩=some (.int .i64 (O j))/\w'.cell? ⟨w.heap.size+1,1,none⟩=some (.int .i64 (R j)))
  (first|with_reducible exact(by grind)|with_reducible exact(by grind)|(refine⟨?_,?_,?_,?_⟩<;>simp[go_sem,d0,d1,d2,d3];done)|go_keep)
  (first|(go_at_call 163;refine(V.out _).mono ?_;rintro e w2 ⟨rfl,k⟩;have d:Below W.heap.size W w2:=((i4 _ W).drew).trans k;clear k;obtain⟨⟨d0,d1,d2,d3,U,T⟩,g2,g3,g4,g5⟩:=Y.out.below d;have X:=aa (i.out.trans (d.mono i.out.size));clear d))
 go_wp2
 refine bodyPost_ret (v:= .tuple #[.agg #[.int .i64 (O j),.int .i64 (R j)],.agg #[.int .i64 (NX (O j) (R j) j),.int .i64 (NB (O j) (R j) left)],.bool false]) ?_ rfl ⟨rfl,?_⟩
 ·simp[results,Tryz.f125,go_sem,d2,d3,U,T]
 grind[RowKit.Hid.out,RowKit.Below.setCell]
def D3 (r:Bool) (a:Nat) (p:Int):Bool:=r&&decide (0<=p/\p<(a:Int))
def OL (r:Bool) (a:Nat) (O:Nat->Int) (p:Int):Int:=if D3 r a p then O p.toNat else 9
def Ov (r:Bool) (a:Nat) (R:Nat->Int) (p:Int):Int:=if D3 r a p then R p.toNat else 0
def O6 (r:Bool) (a:Nat) (O R:Nat->Int) (p:Int):Int:=if D3 r a p then NX (O p.toNat) (R p.toNat) p else p
def Oa (r:Bool) (a:Nat) (O R:Nat->Int) (p left:Int):Int:=if D3 r a p then NB (O p.toNat) (R p.toNat) left else left
def AY {r:Bool} {a:Nat} {O R:Nat->Int} (b:r=true↔Rt a O R) (p:Int):D3 r a p=true↔(Rt a O R/\0<=p/\p<a):=by
 simp[D3,b]
def pN (w:World) (a:Option Addr) (b d:Nat) (c:b<9223372036854775808) (O R:Nat->Int) (f:lJ w a b O R) (r:Bool) (e:r=true↔Rt b O R) (p left:Int) (g: ¬0<left):
  vQ 125 #[.slice a b d,.agg #[ab p,ab left]] w (.tuple #[.agg #[ab (OL r b O p),ab (Ov r b R p)],.agg #[ab (O6 r b O R p),ab (Oa r b O R p left)],.bool false]):=by
 by_cases h:D3 r b p=true
 ·obtain⟨m,l,k⟩:=(AY e p).1 h
  simp only[OL,Ov,O6,Oa,h,if_true]
  obtain⟨j,rfl⟩: ∃j:Nat,p=j:=⟨p.toNat,z_⟩
  grind[Ex.D4]
 ·have i:D3 r b p=false:=by grind
  simp only[OL,Ov,O6,Oa,i,Bool.false_eq_true,if_false]
  exact uq w a b d c O R f p left g (fun q=>h ((AY e p).2 q))
end Go.Proofs.YtnmhcgpnhlhcgaaGreatDoor.Ex
namespace Go.Proofs.YtnmhcgpnhlhcgaaGreatDoor.Ex
open Go.RowKit Go.Lib Go.Deep Go.ChangeShapes Go.WideShapes Go.ChangeAt
@[go_sem] theorem OK (x y : Value) (w : World) : (Instr.field 128 (.agg #[x, y]) 0).run Tryz.prog w = .ok x w := by rfl
@[go_sem] theorem zI (x y : Value) (w : World) : (Instr.field 128 (.agg #[x, y]) 1).run Tryz.prog w = .ok y w := by rfl
end Go.Proofs.YtnmhcgpnhlhcgaaGreatDoor.Ex
namespace Go.Proofs.YtnmhcgpnhlhcgaaGreatDoor.Ag
open Go.RowKit
def CU (b s n p:Int):Int:=if p=0 then b else if mf n s/p<255-b then b+mf n s/p else 255
def Tm (a:Int):Prop:=0<=a/\a<=18446744073709551615
def Lv (a:Int):Prop:=0<=a/\a<=255
def M6 (x p:Int) (a:0<=x) (c:x<=18446744073709551615) (b:0<=p):0<=x/p/\x/p<=18446744073709551615:=
 ⟨Int.ediv_nonneg a b,Int.le_trans (Int.ediv_le_self p a) c⟩
def E7 (b s n p:Int) (w:World) (q:Lv b) (m:Tm s) (o:Tm n) (a:Tm p):
  vS 161 #[aA b,aj s,aj n,aj p] w (aA (CU b s n p)):=by
 obtain⟨y,v⟩:=q
 obtain⟨d,k⟩:=m
 obtain⟨f,e⟩:=o
 obtain⟨l,u⟩:=a
 have c:=aa (fun w=>Je n s w f e d k)
 have g:=JQ n s f e d
 unfold CU
 generalize mf n s=x at c g|-
 obtain⟨j,i⟩:=g
 obtain⟨t,r⟩:=M6 x p j i l
 by_cases a:p=0
 ·rw[if_pos a]
  refine ge ?_
  go_wp2
  go_ret
  simp
 ·rw[if_neg a]
  by_cases h:x/p<255-b
  ·rw[if_pos h]
   refine ge ?_
   go_wp2_with (go_at_call 189;refine cS (c.out _) ?_)
   go_ret
   simp
  ·rw[if_neg h]
   refine ge ?_
   go_wp2_with (go_at_call 189;refine cS (c.out _) ?_)
   all_goals
    go_ret
    refine⟨?_,rfl⟩
    simp
    omega
end Go.Proofs.YtnmhcgpnhlhcgaaGreatDoor.Ag

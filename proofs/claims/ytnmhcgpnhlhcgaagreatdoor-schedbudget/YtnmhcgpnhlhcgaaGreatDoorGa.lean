/- YtnmhcgpnhlhcgaaGreatDoorGa: of the texts O1 O2 O3 O4 O5 O6 O7 O8 O9 O10 O11 O12 O13 O14 O15 O16 O17 O18 O19 O20 O21 O22 O23 O24 O25 Mq Mk Q1 L1 J1 J2 J3 J4 J5 J6 J7 J8 W1 A1 A2 A3 A4 A5 A6 what is wanted. -/
import Derived.Test.YtnmhcgpnhlhcgaaGreatDoorG0
import Derived.Test.YtnmhcgpnhlhcgaaGreatDoorRows
import Derived.WalkKit
import Derived.Below
import Derived.WalkSpells
import Derived.WalkLawsBesides
import Derived.StillTactics
import Derived.RegionTactic
import Derived.RowKit3
import Derived.Laws.MakeOwn
import Derived.OwnWalk
import Derived.Deep.QuietTactic
import Derived.BigQuiet
import Derived.Laws.OwnMore
import Derived.Maps.AppendAt
import Derived.Deep.AppendLies
import Derived.Deep.RegionHeld3
import Derived.Deep.DrawnRows
import Derived.Lib.SmallJoins
import Derived.OneCell
import Derived.Laws.BytesArg
import Derived.ProofKit
import Derived.Deep.Slices
import Derived.Deep.Strs
import Derived.ChangeOld
import Derived.OpenShut
import Derived.Lib.EndianBits
import Derived.Defers
import Derived.Recover
import Derived.Laws.Pointers
import Derived.Laws.FloatArith
import Derived.Laws.MathBits
import Derived.Lib.BitFns
import Derived.Laws.Bits64b
import Derived.Laws.StructEq
import Derived.Laws.BitsAllLaws
import Derived.Test.YtnmhcgpnhlhcgaaGreatDoorChecked
import Derived.Laws.IdiomArrays
import Derived.WideShapes
import Derived.Carry
set_option maxHeartbeats 16000000
set_option maxRecDepth 100000
set_option linter.unusedVariables false
set_option linter.unusedSimpArgs false
namespace Go.Proofs.YtnmhcgpnhlhcgaaGreatDoor.Ex
open Go.RowKit Go.Lib
def ent (k a b:Int) (n:Nat):MapEntry:={key:=vI6 k,val:= .agg #[vI6 a,vI6 b],born:=n}
def spanRow (n:Int):List MapEntry:=
 [ent 1 1 65536 0,ent 2 0 31 1,ent 3 0 31 2,ent 4 0 15 3,ent 5 1 65536 4,ent 6 0 0 5,ent 7 0 255 6,ent 8 0 (n-1) 7,ent 9 0 0 8]
theorem find_no (k:Int): ∀(l:List MapEntry) (i:Nat),(∀e∈l,∃x,e.key=vI6 x∧x≠k)→Instr.findNow (.int .i64) (vI6 k) l i=some none
 |[],_,_=>rfl
 |e::l,i,h=>by
  obtain⟨x,h1,h2⟩:=h e (by simp)
  have hne:(k==x)=false:=by grind
  simp[Instr.findNow,h1,Instr.sameNow,hne,find_no k l (i+1) (by grind)]
theorem run_put (w:World) (l:List MapEntry) (c:Nat) (k:Int) (v:Value) (h: ∀e∈l,∃x,e.key=vI6 x∧x≠k):
  (Instr.mapUpdate 208 (.map (some w.heap.size)) (vI6 k) v).run Tryz.prog (w.alloc (.map l.toArray c))= .ok () (w.alloc (.map (l++[MapEntry.mk (vI6 k) v c]).toArray (c+1))):=by
 have hf:=find_no k l 0 h
 have hg:(w.alloc (.map l.toArray c)).heap[w.heap.size]? =some (.map l.toArray c):=heap_alloc_new w _
 have h1:=MapKept.run_checkKey (P:=Tryz.prog) (w:=w.alloc (.map l.toArray c)) (k:=vI6 k) Tryz.underlying81 (by simp[MapKept.IsKey]) false 9999
 have h2:=MapKept.run_findKey (P:=Tryz.prog) (w:=w.alloc (.map l.toArray c)) Tryz.underlying81 hf
 have h3:Array.setIfInBounds (w.heap.push (.map l.toArray c)) w.heap.size (.map (l++[MapEntry.mk (vI6 k) v c]).toArray (c+1))=w.heap.push (.map (l++[MapEntry.mk (vI6 k) v c]).toArray (c+1)):=by
  grind
 simp[Instr.mapUpdate,run_underlying Tryz.underlying208,MapKept.run_getObj_map hg,h1,h2,MapKept.run_setObj_map _ hg,Result.andThen]
 show({w with heap:=Array.setIfInBounds (w.heap.push (.map l.toArray c)) w.heap.size (.map (l++[MapEntry.mk (vI6 k) v c]).toArray (c+1))}:World)=_
 simp_all
def spanW (w:World) (n:Int) (k:Nat):World:=w.alloc (.map ((spanRow n).take k).toArray k)
theorem put1 (w:World) (n:Int):(Instr.mapUpdate 208 (.map (some w.heap.size)) (vI6 1) (.agg #[vI6 1,vI6 65536])).run Tryz.prog (spanW w n 0)= .ok () (spanW w n 1):=
 run_put w ((spanRow n).take 0) 0 1 _ (by simp)
theorem put2 (w:World) (n:Int):(Instr.mapUpdate 208 (.map (some w.heap.size)) (vI6 2) (.agg #[vI6 0,vI6 31])).run Tryz.prog (spanW w n 1)= .ok () (spanW w n 2):=
 run_put w ((spanRow n).take 1) 1 2 _ (by simp[spanRow,ent])
theorem put3 (w:World) (n:Int):(Instr.mapUpdate 208 (.map (some w.heap.size)) (vI6 3) (.agg #[vI6 0,vI6 31])).run Tryz.prog (spanW w n 2)= .ok () (spanW w n 3):=
 run_put w ((spanRow n).take 2) 2 3 _ (by simp[spanRow,ent])
theorem put4 (w:World) (n:Int):(Instr.mapUpdate 208 (.map (some w.heap.size)) (vI6 4) (.agg #[vI6 0,vI6 15])).run Tryz.prog (spanW w n 3)= .ok () (spanW w n 4):=
 run_put w ((spanRow n).take 3) 3 4 _ (by simp[spanRow,ent])
theorem put5 (w:World) (n:Int):(Instr.mapUpdate 208 (.map (some w.heap.size)) (vI6 5) (.agg #[vI6 1,vI6 65536])).run Tryz.prog (spanW w n 4)= .ok () (spanW w n 5):=
 run_put w ((spanRow n).take 4) 4 5 _ (by simp[spanRow,ent])
theorem put6 (w:World) (n:Int):(Instr.mapUpdate 208 (.map (some w.heap.size)) (vI6 6) (.agg #[vI6 0,vI6 0])).run Tryz.prog (spanW w n 5)= .ok () (spanW w n 6):=
 run_put w ((spanRow n).take 5) 5 6 _ (by simp[spanRow,ent])
theorem put7 (w:World) (n:Int):(Instr.mapUpdate 208 (.map (some w.heap.size)) (vI6 7) (.agg #[vI6 0,vI6 255])).run Tryz.prog (spanW w n 6)= .ok () (spanW w n 7):=
 run_put w ((spanRow n).take 6) 6 7 _ (by simp[spanRow,ent])
theorem put8 (w:World) (n:Int):(Instr.mapUpdate 208 (.map (some w.heap.size)) (vI6 8) (.agg #[vI6 0,vI6 (n-1)])).run Tryz.prog (spanW w n 7)= .ok () (spanW w n 8):=
 run_put w ((spanRow n).take 7) 7 8 _ (by simp[spanRow,ent])
theorem put9 (w:World) (n:Int):(Instr.mapUpdate 208 (.map (some w.heap.size)) (vI6 9) (.agg #[vI6 0,vI6 0])).run Tryz.prog (spanW w n 8)= .ok () (spanW w n 9):=
 run_put w ((spanRow n).take 8) 8 9 _ (by simp[spanRow,ent])
theorem spans_ok (w:World) (n:Int) (h1:1≤n) (h2:n≤64):
  vCa 97 #[vI6 n] w fun e w'=>e= .returned (.map (some w.heap.size))∧w'=spanW w n 9:=by
 have hm:(Instr.makeMap 208 none).run Tryz.prog w= .ok (.map (some w.heap.size)) (spanW w n 0):=rfl
 have p1:=put1 w n
 have p2:=put2 w n
 have p3:=put3 w n
 have p4:=put4 w n
 have p5:=put5 w n
 have p6:=put6 w n
 have p7:=put7 w n
 have p8:=put8 w n
 have p9:=put9 w n
 refine ge ?_
 go_wp2
 go_ret
 simp
def lo (op:Int):Int:=if op=1∨op=5 then 1 else 0
def hi (n op:Int):Int:=if op=1∨op=5 then 65536 else if op=2∨op=3 then 31 else if op=4 then 15 else if op=7 then 255 else if op=8 then n-1 else 0
def known (op:Int):Bool:=decide (1≤op∧op≤9)
theorem look_span (w:World) (b:Nat) (n op:Int) (hb:w.heap[b]? =some (.map (spanRow n).toArray 9)):
  (Instr.lookup 208 (.map (some b)) (vI6 op) true).run Tryz.prog w= .ok (.tuple #[.agg #[vI6 (lo op),vI6 (hi n op)],.bool (known op)]) w:=by
 have h1:=MapKept.run_checkKey (P:=Tryz.prog) (w:=w) (k:=vI6 op) Tryz.underlying81 (by simp[MapKept.IsKey]) false 9999
 have hz:(zeroValue 211).run Tryz.prog w= .ok (.agg #[vI6 0,vI6 0]) w:=by rfl
 have he:(spanRow n).toArray.isEmpty=false:=rfl
 have key: ∃a,Instr.findNow (.int .i64) (vI6 op) (spanRow n) 0=some a∧((a=none∧known op=false∧lo op=0∧hi n op=0)∨ ∃i,a=some (i,.agg #[vI6 (lo op),vI6 (hi n op)])∧known op=true):=by
  by_cases hk:1≤op∧op≤9
  ·have:op=1∨op=2∨op=3∨op=4∨op=5∨op=6∨op=7∨op=8∨op=9:=by omega
   rcases this with rfl|rfl|rfl|rfl|rfl|rfl|rfl|rfl|rfl<;>exact⟨_,rfl,.inr ⟨_,rfl,rfl⟩⟩
  ·refine⟨none,find_no _ _ _ (fun e he=> ?_),.inl ⟨rfl,by simp[known];omega,by simp[lo];omega,?_⟩⟩
   ·simp only[spanRow,List.mem_cons,List.not_mem_nil,or_false] at he
    rcases he with rfl|rfl|rfl|rfl|rfl|rfl|rfl|rfl|rfl<;>exact⟨_,rfl,by omega⟩
   ·unfold hi
    omega
 obtain⟨a,ha,hk⟩:=key
 have h2:=MapKept.run_findKey (P:=Tryz.prog) (w:=w) Tryz.underlying81 ha
 rcases hk with ⟨rfl,q1,q2,q3⟩|⟨i,rfl,q1⟩
 ·simp[Instr.lookup,run_underlying Tryz.underlying208,MapKept.run_getObj_map hb,he,h1,h2,hz,q1,q2,q3,Result.andThen]
 ·simp[Instr.lookup,run_underlying Tryz.underlying208,MapKept.run_getObj_map hb,he,h1,h2,q1,Result.andThen]
theorem holds_ok (a b x:Int) (w:World):vQ 98 #[.agg #[vI6 a,vI6 b],vI6 x] w (.bool (decide (a≤x∧x≤b))):=by
 by_cases h1:a≤x
 ·by_cases h2:x≤b
  ·refine ge ?_
   go_wp2
   go_ret
   exact⟨by simp_all,bzA⟩
  ·refine ge ?_
   go_wp2
   go_ret
   exact⟨by simp[h2],bzA⟩
 ·refine ge ?_
  go_wp2
  go_ret
  exact⟨by simp;omega,bzA⟩
def Prg (w:World) (a:Option Addr) (len:Nat) (O R:Nat→Int):Prop:=
 len=0∨ ∃lb off,a=some (vAt lb off)∧lb<w.heap.size∧ ∀j,j<len→w.cell? (vAt lb (off+j*2))=some (vI6 (O j))∧w.cell? (vAt lb (off+j*2+1))=some (vI6 (R j))
theorem Prg.below {w w':World} {a:Option Addr} {len:Nat} {O R:Nat→Int} (h:Prg w a len O R) (hb:vBw w w'):Prg w' a len O R:=by
 rcases h with h|⟨lb,off,rfl,hlb,hc⟩
 ·exact .inl h
 ·refine .inr ⟨lb,off,rfl,Nat.lt_of_lt_of_le hlb hb.size,fun j hj=> ?_⟩
  obtain⟨q1,q2⟩:=hc j hj
  exact⟨(hb.cell (p:=(vAt lb (off+j*2))) hlb).trans q1,(hb.cell (p:=(vAt lb (off+j*2+1))) hlb).trans q2⟩
theorem Prg.cut {w:World} {a:Option Addr} {len m:Nat} {O R:Nat→Int} (h:Prg w a len O R) (hm:m≤len):Prg w a m O R:=by
 rcases h with h|⟨lb,off,rfl,hlb,hc⟩
 ·exact mK
 ·exact .inr ⟨lb,off,rfl,hlb,fun j hj=>hc j (by omega)⟩
def okI (n op arg:Int):Bool:=known op&&decide (lo op≤arg∧arg≤hi n op)
def Chk (len:Nat) (O R:Nat→Int) (e at_:Int):Prop:=
 ((len<1∨64<len)∧e=3∧at_=0)∨
 (1≤len∧len≤64∧ ∃j:Nat,j<len∧(∀i,i<j→okI len (O i) (R i)=true)∧okI len (O j) (R j)=false∧e=3∧at_=j)∨
 (1≤len∧len≤64∧(∀i,i<len→okI len (O i) (R i)=true)∧O (len-1)≠8∧O (len-1)≠9∧e=3∧at_=((len-1:Nat):Int))∨
 (1≤len∧len≤64∧(∀i,i<len→okI len (O i) (R i)=true)∧(O (len-1)=8∨O (len-1)=9)∧e=0∧at_=0)
theorem Chk.one {len:Nat} {O R:Nat→Int} {e a e' a':Int} (h:Chk len O R e a) (h':Chk len O R e' a'):e'=e∧a'=a:=by
 have no: ∀{j i:Nat},okI len (O j) (R j)=false→(∀k,k<i→okI len (O k) (R k)=true)→j<i→False:=by
  grind
 rcases h with ⟨h1,h2,h3⟩|⟨h1,h2,j,h3,h4,h5,h6,h7⟩|⟨h1,h2,h3,h4,h5,h6,h7⟩|⟨h1,h2,h3,h4,h5,h6⟩<;>
 rcases h' with ⟨g1,g2,g3⟩|⟨g1,g2,i,g3,g4,g5,g6,g7⟩|⟨g1,g2,g3,g4,g5,g6,g7⟩|⟨g1,g2,g3,g4,g5,g6⟩<;>subst_vars<;>try omega
 ·grind
 all_goals first|exact(by grind)|grind
theorem check_ok (w:World) (a:Option Addr) (len cap:Nat) (hlen:len<9223372036854775808) (O R:Nat→Int) (hp:Prg w a len O R):
  vCa 51 #[.slice a len cap] w fun e w'=> ∃x y:Int,e=vRt #[vI6 x,vI6 y]∧Chk len O R x y∧vBw w w':=by
 by_cases hl1:len<1
 ·have hl1':(len:Int)<1:=by omega
  refine ge ?_
  go_wp2
  go_ret2
  exact⟨_,_,rfl,.inl ⟨.inl hl1,rfl,rfl⟩,bzR⟩
 by_cases hl2:64<len
 ·have hl1': ¬(len:Int)<1:=by omega
  have hl2':64<(len:Int):=by omega
  refine ge ?_
  go_wp2
  go_ret2
  exact⟨_,_,rfl,.inl ⟨.inr hl2,rfl,rfl⟩,bzR⟩
 have hl1': ¬(len:Int)<1:=by omega
 have hl2': ¬64<(len:Int):=by omega
 have HP:=veil hp
 have HS:=veil (spans_ok w len (by omega) (by omega))
 clear hp
 refine ge ?_
 go_wp2_with (go_at_call 97;refine cH HS.out fun w1 HW=> ?_)
 have HM:Hid (w1.heap[w.heap.size]? =some (.map (spanRow len).toArray 9)):=by rw[HW.out];exact heap_alloc_new w _
 have HL:Hid (vBw w w1):=by rw[HW.out];exact bzA
 have hsz:w1.heap.size=w.heap.size+1:=by rw[HW.out];simp[spanW]
 clear HW HS
 have hcap:0≤(len:Int):=by omega
 go_loopw [23] (fun i wr=> ∃(j:Nat),j≤len∧i=vI6 j∧(∀k,k<j→okI len (O k) (R k)=true)∧vBw w1 wr) (fun i _=>len-(intOf i).toNat)
 case atStart=>exact⟨0,by omega,rfl,fun k hk=>by omega,bzR⟩
 case round=>
  obtain⟨j,hj,rfl,hall,hbel⟩:=hrel
  by_cases hjl:j<len
  ·have hjl':(j:Int)<(len:Int):=by omega
   rcases HP.out with h0|⟨lb,off,rfl,hlb,hc⟩
   ·omega
   ·obtain⟨z1,z2⟩:=hc j hjl
    have y1:=(hbel.cell (p:=(vAt lb (off+j*2))) (by grind)).trans ((HL.out.cell (p:=(vAt lb (off+j*2))) hlb).trans z1)
    have y2:=(hbel.cell (p:=(vAt lb (off+j*2+1))) (by grind)).trans ((HL.out.cell (p:=(vAt lb (off+j*2+1))) hlb).trans z2)
    have HB:=veil hbel
    have HA:=veil hall
    clear hc z1 z2 hbel hall
    have hm:(wr.alloc (.cells #[vI6 (O j),vI6 (R j)] 83)).heap[w.heap.size]? =some (.map (spanRow len).toArray 9):=by
     rw[Below.heap_alloc _ _ _ (by have:=HB.out.size;omega),HB.out.block _ (by omega)]
     exact HM.out
    have hk:=look_span _ _ _ (O j) hm
    clear hm
    cases hkn:known (O j) with
    |false=>
     rw[hkn] at hk
     go_wp2
     go_ret2
     exact⟨_,_,rfl,.inr (.inl ⟨by omega,by omega,j,hjl,HA.out,by simp[okI,hkn],rfl,rfl⟩),HL.out.trans (((HB.out.mono (by omega)).alloc (by have:=HB.out.size;omega) _).alloc (by have:=HB.out.size;simp;omega) _)⟩
    |true=>
     rw[hkn] at hk
     have HH:=veil (fun W=>holds_ok (lo (O j)) (hi len (O j)) (R j) W)
     cases hin:decide (lo (O j)≤R j∧R j≤hi len (O j)) with
     |false=>
      rw[hin] at HH
      go_wp2_with (go_at_call 98;refine cH (HH.out _) fun w2 HB2=> ?_)
      go_ret2
      exact⟨_,_,rfl,.inr (.inl ⟨by omega,by omega,j,hjl,HA.out,by simp only[okI,hkn,hin,Bool.and_false],rfl,rfl⟩),(HL.out.trans (((HB.out.mono (by omega)).alloc (by have:=HB.out.size;omega) _).alloc (by have:=HB.out.size;simp;omega) _)).trans (HB2.out.mono (by have:=HB.out.size;simp;omega))⟩
     |true=>
      rw[hin] at HH
      go_wp2_with (go_at_call 98;refine cH (HH.out _) fun w2 HB2=> ?_)
      go_roundw
      case rel=>
       refine⟨j+1,by omega,by go_num,fun k hk'=> ?_,(((HB.out).alloc (by have:=HB.out.size;omega) _).alloc (by have:=HB.out.size;simp;omega) _).trans (HB2.out.mono (by have:=HB.out.size;simp;omega))⟩
       by_cases q:k=j
       ·subst q;simp only[okI,hkn,hin,Bool.and_self]
       ·exact HA.out k (by omega)
      case measure=>simp[intOf];omega
  ·have hjl': ¬(j:Int)<(len:Int):=by omega
   obtain rfl:j=len:=by omega
   rcases HP.out with h0|⟨lb,off,rfl,hlb,hc⟩
   ·omega
   obtain⟨z1,_⟩:=hc (j-1) (by omega)
   have y1:=(hbel.cell (p:=(vAt lb (off+(j-1)*2))) (by grind)).trans ((HL.out.cell (p:=(vAt lb (off+(j-1)*2))) hlb).trans z1)
   have HB:=veil hbel
   have HA:=veil hall
   clear hc z1 hbel hall
   obtain⟨n,rfl⟩: ∃n,j=n+1:=⟨j-1,by omega⟩
   have e1:((n+1:Nat):Int)-1=(n:Nat):=by omega
   have e2:(n:Int)<((n+1:Nat):Int):=by omega
   simp only[Nat.add_sub_cancel] at y1
   have HL2:=veil<|HL.out.trans (HB.out.mono (by omega))
   clear HL HB HM
   by_cases h8:O n=8
   ·go_wp2
    go_ret2
    exact⟨_,_,rfl,.inr (.inr (.inr ⟨by omega,by omega,HA.out,.inl h8,rfl,rfl⟩)),HL2.out⟩
   ·by_cases h9:O n=9
    ·go_wp2
     go_ret2
     exact⟨_,_,rfl,.inr (.inr (.inr ⟨by omega,by omega,HA.out,.inr h9,rfl,rfl⟩)),HL2.out⟩
    ·have b8:(O n !=8)=true:=by grind
     have b9:(O n !=9)=true:=by grind
     go_wp2
     go_ret2
     exact⟨_,_,rfl,.inr (.inr (.inl ⟨by omega,by omega,HA.out,h8,h9,rfl,by go_num⟩)),HL2.out⟩
theorem Chk.zero {len:Nat} {O R:Nat→Int} {y:Int} (h:Chk len O R 0 y):1≤len∧len≤64∧(∀i,i<len→okI len (O i) (R i)=true)∧(O (len-1)=8∨O (len-1)=9)∧y=0:=by
 rcases h with ⟨_,h,_⟩|⟨_,_,_,_,_,_,h,_⟩|⟨_,_,_,_,_,h,_⟩|⟨h1,h2,h3,h4,_,h5⟩
 ·omega
 ·omega
 ·omega
 grind
def Rt (len:Nat) (O R:Nat→Int):Prop:= ∃y,Chk len O R 0 y
end Go.Proofs.YtnmhcgpnhlhcgaaGreatDoor.Ex
namespace Go.Proofs.YtnmhcgpnhlhcgaaGreatDoor.Ex
open Go.RowKit Go.Lib Go.Deep Go.ChangeShapes Go.WideShapes Go.ChangeAt
section
variable {H:Type} {enc:TypeId×Value→H} {w:World} {base:Nat} {spare:Nat→Bool} {held:Bool}
theorem cellsInstr:Tryz.prog.cellsOf 83=2:=by rfl
theorem cellsOp:Tryz.prog.cellsOf 81=1:=by rfl
theorem instr_cells {fuel:Nat} {c0 c1:Value} {x:DataW H×List MemPlace} (h:DataW.trod enc Tryz.prog w base spare held fuel 83 [c0,c1]=some x):
  ∃(p q:Int),c0=vI6 p∧c1=vI6 q∧(Lit.int .i64 p).wf=true∧(Lit.int .i64 q).wf=true:=by
 obtain⟨y0,y1,n,_,_,h0,h1⟩:=trod_struct2 Tryz.underlying83 h
 obtain⟨p,e0,_,w0⟩:=DataW.trod_int Tryz.underlying81 (by simpa [cellsOp] using h0)
 obtain⟨q,e1,_,w1⟩:=DataW.trod_int Tryz.underlying3 (by simpa [cellsInt] using h1)
 grind
theorem open_prg {fuel:Nat} {a:Option Addr} {len cap:Nat} {x:DataW H×List MemPlace}
  (h:DataW.trod enc Tryz.prog w base spare held fuel 35 (Value.slice a len cap).cells.toList=some x):len<9223372036854775808∧len≤cap∧cap<9223372036854775808∧ ∃(O R:Nat→Int),Prg w a len O R:=by
 rcases open_slice Tryz.underlying35 h with ⟨hcs,_⟩|⟨a',len',cap',m,n,D,Pl,hcs,hbb,hl,hm,hmm,hx,hel⟩
 ·simp[Value.cells] at hcs
  obtain⟨rfl,rfl,rfl⟩:=hcs
  exact⟨by omega,by omega,by omega,fun _=>0,fun _=>0,.inl rfl⟩
 ·simp[Value.cells] at hcs
  obtain⟨rfl,rfl,rfl⟩:=hcs
  have hlm:len≤m:=by grind
  refine⟨by unfold maxLen at hm;omega,hl,by unfold maxLen at hm;omega,?_⟩
  have hone: ∀i,i<len→ ∃r:Int×Int,w.cell? (a'.add (i*2))=some (vI6 r.1)∧w.cell? ((a'.add (i*2)).add 1)=some (vI6 r.2):=by
   intro i hi'
   obtain⟨cs',h1,h2⟩:=hel i (by omega)
   rw[cellsInstr] at h1
   obtain⟨_,hlen,hc⟩:=World.cells?_some h1
   match cs',hlen with
   |[c0,c1],_=>
    obtain⟨p,q,rfl,rfl,_⟩:=instr_cells h2
    have a0:=hc 0 (by omega)
    have az: ∀x:Addr,x.add 0=x:=fun x=>by rfl
    simp_all
  obtain⟨f,hf⟩:=choose_lt hone
  refine⟨fun i=>(f i).1,fun i=>(f i).2,?_⟩
  by_cases h0:len=0
  ·exact .inl h0
  ·right
   obtain⟨b,off,spot⟩:=a'
   have hspot:spot=none:=by
    have:=World.cell?_spot (hf 0 (by omega)).1
    assumption
   subst hspot
   have hlt:b<w.heap.size:=by
    have:=World.block_lt_of_cell? w _ (hf 0 (by omega)).1
    assumption
   grind[WideShapes.add_plain]
end
end Go.Proofs.YtnmhcgpnhlhcgaaGreatDoor.Ex
namespace Go.Proofs.YtnmhcgpnhlhcgaaGreatDoor.Ex
open Go.RowKit Go.Lib
theorem check_known (w:World) (a:Option Addr) (len cap:Nat) (hlen:len<9223372036854775808) (O R:Nat→Int) (hp:Prg w a len O R) (x y:Int) (h:Chk len O R x y):
  vQ 51 #[.slice a len cap] w (.tuple #[vI6 x,vI6 y]):=
 (check_ok w a len cap hlen O R hp).mono fun e w' ⟨x',y',he,hc,hb⟩=>by
  grind[Ex.Chk.one]
theorem first_bad (f:Nat→Bool): ∀n,(∀i,i<n→f i=true)∨ ∃j,j<n∧(∀i,i<j→f i=true)∧f j=false
 |0=>(by simp)
 |n+1=>by
  rcases first_bad f n with h|⟨j,h1,h2,h3⟩
  ·grind
  grind
theorem chk_total (len:Nat) (O R:Nat→Int): ∃x y,Chk len O R x y:=by
 by_cases h1:len<1∨64<len
 ·exact⟨3,0,.inl ⟨h1,rfl,rfl⟩⟩
 ·rcases first_bad (fun i=>okI len (O i) (R i)) len with h2|⟨j,hj,h2,h3⟩
  ·by_cases h3:O (len-1)=8∨O (len-1)=9
   ·exact⟨0,0,.inr (.inr (.inr ⟨by omega,by omega,h2,h3,rfl,rfl⟩))⟩
   ·exact⟨3,_,.inr (.inr (.inl ⟨by omega,by omega,h2,fun q=>h3 (.inl q),fun q=>h3 (.inr q),rfl,rfl⟩))⟩
  ·exact⟨3,_,.inr (.inl ⟨by omega,by omega,j,hj,h2,h3,rfl,rfl⟩)⟩
def pcells (O R:Nat→Int):Nat→List Value
 |0=>[]
 |k+1=>pcells O R k++[vI6 (O k),vI6 (R k)]
theorem pcells_length (O R:Nat→Int): ∀k,(pcells O R k).length=k*2
 |0=>rfl
 |k+1=>by simp[pcells,pcells_length O R k];omega
theorem pcells_at (O R:Nat→Int): ∀(k i:Nat),i<k→(pcells O R k)[i*2]? =some (vI6 (O i))∧(pcells O R k)[i*2+1]? =some (vI6 (R i))
 |k+1,i,h=>by
  by_cases q:i=k
  ·grind[Ex.pcells,Ex.pcells_length]
  ·have:=pcells_at O R k i (by omega)
   simp only[pcells]
   grind
theorem prg_row {w:World} {base:Nat} {v:Value} {k:Nat} {O R:Nat→Int} (h:w.ownsRow base 83 2 v (k+1) (pcells O R (k+1))): ∃a cap,v= .slice a (k+1) cap∧Prg w a (k+1) O R:=by
 rcases h.2 with ⟨_,h0⟩|⟨g,cap,cur,rfl,_,hb,_,_,_,ht⟩
 ·omega
 ·refine⟨_,cap,rfl,.inr ⟨g,0,rfl,(Array.getElem?_eq_some_iff.1 hb).1,fun j hj=> ?_⟩⟩
  obtain⟨p1,p2⟩:=pcells_at O R (k+1) j hj
  have hz: ∀i u,i<(k+1)*2→(pcells O R (k+1))[i]? =some u→w.cell? (vAt g (0+i))=some u:=by
   intro i u hi hu
   rw[←ht,List.getElem?_take_of_lt hi] at hu
   unfold World.cell?
   grind
  grind
theorem prg_any {w:World} {base:Nat} {v:Value} {k:Nat} {O R:Nat→Int} (h:w.ownsRow base 83 2 v k (pcells O R k)): ∃a cap,v= .slice a k cap∧Prg w a k O R:=by
 cases k with
 |zero=>
  rcases h.2 with ⟨rfl,_⟩|⟨g,cap,cur,rfl,_⟩
  ·exact⟨_,_,rfl,.inl rfl⟩
  ·exact⟨_,_,rfl,.inl rfl⟩
 |succ k=>exact prg_row h
end Go.Proofs.YtnmhcgpnhlhcgaaGreatDoor.Ex
namespace Go.Proofs.YtnmhcgpnhlhcgaaGreatDoor.Bq
open Go.RowKit
def addN (a b:Int):Int:=if 18446744073709551615<a+b then 18446744073709551615 else a+b
theorem add_any (a b:Int) (w:World) (a0:0≤a) (a1:a≤18446744073709551615) (b0:0≤b) (b1:b≤18446744073709551615):
  vS 46 #[vU6 a,vU6 b] w (vU6 (addN a b)):=by
 unfold addN
 by_cases h:18446744073709551615<a+b
 ·rw[if_pos h]
  have h':18446744073709551615-b<a:=by omega
  refine ge ?_
  go_wp2
  go_ret
  simp
 ·rw[if_neg h]
  have h': ¬18446744073709551615-b<a:=by omega
  refine ge ?_
  go_wp2
  go_ret
  simp
end Go.Proofs.YtnmhcgpnhlhcgaaGreatDoor.Bq
namespace Go.Proofs.YtnmhcgpnhlhcgaaGreatDoor.Bq
open Go.RowKit Go.Lib
def hiN (a b:Int):Int:=a*b/18446744073709551616
def loN (a b:Int):Int:=a*b%18446744073709551616
theorem low_half (z:Int):bits .and .u64 (z%18446744073709551616) 4294967295=z%18446744073709551616%4294967296:=
 and_low32 _ (by omega) (by omega)
theorem mul64_any (a b:Int) (w:World) (a0:0≤a) (a1:a≤18446744073709551615) (b0:0≤b) (b1:b≤18446744073709551615):
  vS 117 #[vU6 a,vU6 b] w (.tuple #[vU6 (hiN a b),vU6 (loN a b)]):=by
 have HH:=veil<|mul64_arith a b a0 (by omega) b0 (by omega)
 refine ge ?_
 go_wp2
 simp only[IntKind.wrap_u64,and_low32 a a0 (by omega),and_low32 b b0 (by omega),low_half]
 rw[HH.out]
 go_ret2
 exact⟨rfl,rfl⟩
theorem tab_get (i:Nat) (h:i<Lib.len8tab.size):((Lib.len8tab[i]).toNat:Int)=(Lib.bitLen i:Int):=by
 have h':i<256:=by assumption
 have e:=Lib.len8_eq ⟨i,h'⟩
 simp only[Lib.len8,Int.toNat_natCast,ByteArray.getElem?_lt' _ _ h,Option.getD_some] at e
 exact e
theorem wrap64_of_in {a:Int} (h: -9223372036854775808≤a) (h':a<9223372036854775808):wrap64 a=a:=by
 unfold wrap64;omega
theorem len_fin (x y:Int) (kk:Int) (h:Lib.bitLen y.toNat≤8) (k0:0≤kk) (k1:kk≤56) (e:(Lib.bitLen x.toNat:Int)=kk+(Lib.bitLen y.toNat:Int)):
  wrap64 (kk+wrap64 (Lib.bitLen y.toNat:Int))=(Lib.bitLen x.toNat:Int):=by
 grind[Bq.wrap64_of_in]
theorem len64_any (x:Int) (w:World) (h0:0≤x) (h1:x≤18446744073709551615):
  vS 216 #[vU6 x] w (vI6 (Lib.bitLen x.toNat)):=by
 have hsz:=Lib.len8tab_size
 refine ge ?_
 go_wp2
 all_goals (go_ret;refine⟨congrArg Ending.returned (congrArg (Value.int IntKind.i64) ?_),rfl⟩)
 all_goals rw[tab_get _ (by omega)]
 ·have s:=Lib.bitLen_shift56 x.toNat (by omega) (by omega)
  have e:(x/4294967296/65536/256).toNat=x.toNat/72057594037927936:=by omega
  exact len_fin x _ 56 (Lib.bitLen_le8' (x/4294967296/65536/256) (by omega) (by omega)) (by decide) (by decide) (by grind)
 ·have s:=Lib.bitLen_shift48 x.toNat (by omega) (by omega)
  have e:(x/4294967296/65536).toNat=x.toNat/281474976710656:=by omega
  exact len_fin x _ 48 (Lib.bitLen_le8' (x/4294967296/65536) (by omega) (by omega)) (by decide) (by decide) (by grind)
 ·have s:=Lib.bitLen_shift40 x.toNat (by omega) (by omega)
  have e:(x/4294967296/256).toNat=x.toNat/1099511627776:=by omega
  exact len_fin x _ 40 (Lib.bitLen_le8' (x/4294967296/256) (by omega) (by omega)) (by decide) (by decide) (by grind)
 ·have s:=Lib.bitLen_shift32 x.toNat (by omega) (by omega)
  have e:(x/4294967296).toNat=x.toNat/4294967296:=by omega
  exact len_fin x _ 32 (Lib.bitLen_le8' (x/4294967296) (by omega) (by omega)) (by decide) (by decide) (by grind)
 ·have s:=Lib.bitLen_shift24 x.toNat (by omega) (by omega)
  have e:(x/65536/256).toNat=x.toNat/16777216:=by omega
  exact len_fin x _ 24 (Lib.bitLen_le8' (x/65536/256) (by omega) (by omega)) (by decide) (by decide) (by grind)
 ·have s:=Lib.bitLen_shift16 x.toNat (by omega) (by omega)
  have e:(x/65536).toNat=x.toNat/65536:=by omega
  exact len_fin x _ 16 (Lib.bitLen_le8' (x/65536) (by omega) (by omega)) (by decide) (by decide) (by grind)
 ·have s:=Lib.bitLen_shift8 x.toNat (by omega) (by omega)
  have e:(x/256).toNat=x.toNat/256:=by omega
  exact len_fin x _ 8 (Lib.bitLen_le8' (x/256) (by omega) (by omega)) (by decide) (by decide) (by grind)
 ·have:=Lib.bitLen_le8' x h0 (by omega)
  have e:wrap64 (Lib.bitLen x.toNat:Int)=(Lib.bitLen x.toNat:Int):=wrap64_of_in (by omega) (by omega)
  rw[e,e]
@[go_sem] theorem buildArr0 (w : World) : (Instr.build 272 #[]).run Tryz.prog w = .ok (.agg #[vU6 0, vU6 0, vU6 0, vU6 0]) w := run_build w 272 _ _ (by rfl)
@[go_sem] theorem buildArr1 (a : Int) (w : World) : (Instr.build 272 #[(0, vU6 a)]).run Tryz.prog w = .ok (.agg #[vU6 a, vU6 0, vU6 0, vU6 0]) w := run_build w 272 _ _ (by rfl)
@[go_sem] theorem eqArr (a b c d a' b' c' d' : Int) (w : World) : (Op.equalIn 10000 272 (.agg #[vU6 a, vU6 b, vU6 c, vU6 d]) (.agg #[vU6 a', vU6 b', vU6 c', vU6 d'])).run Tryz.prog w = .ok (a == a' && b == b' && c == c' && d == d') w := by
 have u3:=Tryz.underlying25
 have a3:=Tryz.isAgg25
 have z3:=Tryz.sizeOf25
 rw[show(10000:Nat)=9999+1 from rfl,Op.equalIn]
 simp only[Sem.run_bind,run_underlying Tryz.underlying272,Result.andThen_ok]
 simp only[Std.Legacy.Range.forIn_eq_forIn_range',Std.Legacy.Range.size,Nat.sub_zero,Nat.add_sub_cancel,Nat.div_one,List.range'_succ,List.range'_zero,List.forIn_cons,List.forIn_nil]
 go_simp
 grind
def hiOf (x:Int) (at_:Int) (old:Int):Int:=if x=0 then old else at_+Lib.bitLen x.toNat-1
def hiPart (w0 w1 w2 w3:Int) (k:Nat):Int:=
 match k with
 |0=>0
 |1=>hiOf w0 0 0
 |2=>hiOf w1 64 (hiOf w0 0 0)
 |3=>hiOf w2 128 (hiOf w1 64 (hiOf w0 0 0))
 |_=>hiOf w3 192 (hiOf w2 128 (hiOf w1 64 (hiOf w0 0 0)))
def hiBit (w0 w1 w2 w3:Int):Int:=if w0=0∧w1=0∧w2=0∧w3=0 then-1 else hiPart w0 w1 w2 w3 4
theorem len_bd (x:Int) (h0:0≤x) (h1:x≤18446744073709551615):0≤(Lib.bitLen x.toNat:Int)∧(Lib.bitLen x.toNat:Int)≤64:=by
 have:=Lib.bitLen_le x.toNat 64 (by omega) (by omega)
 omega
def W64 (x:Int):Prop:=0≤x∧x≤18446744073709551615
theorem highest_none (w:World):
  vCa 233 #[.agg #[vU6 0,vU6 0,vU6 0,vU6 0]] w fun e w'=>e= .returned (vI6 (-1))∧ ∃c:Array Value,w'=w.alloc (.cells c 272):=by
 refine ge ?_
 go_wp2
 go_ret
 exact⟨rfl,_,rfl⟩
theorem highest_some (w0 w1 w2 w3:Int) (w:World) (b0:W64 w0) (b1:W64 w1) (b2:W64 w2) (b3:W64 w3) (hn: ¬(w0=0∧w1=0∧w2=0∧w3=0)):
  vCa 233 #[.agg #[vU6 w0,vU6 w1,vU6 w2,vU6 w3]] w fun e w'=>e= .returned (vI6 (hiPart w0 w1 w2 w3 4))∧ ∃c:Array Value,w'=w.alloc (.cells c 272):=by
 obtain⟨b00,b01⟩:=b0;obtain⟨b10,b11⟩:=b1;obtain⟨b20,b21⟩:=b2;obtain⟨b30,b31⟩:=b3
 have hd:(w0==0&&w1==0&&w2==0&&w3==0)=false:=by
  grind
 clear hn
 refine ge ?_
 go_wp2
 clear hd
 go_loop [3,8] (fun h i=> ∃k:Nat,k≤4∧i=vI6 k∧h=vI6 (hiPart w0 w1 w2 w3 k)) (fun _ i=>4-(intOf i).toNat)
 case atStart=>exact⟨0,by omega,rfl,rfl⟩
 case round=>
  obtain⟨k,hk,rfl,rfl⟩:=hrel
  have hc:k=0∨k=1∨k=2∨k=3∨k=4:=by omega
  rcases hc with rfl|rfl|rfl|rfl|rfl
  ·have hl:=len_bd w0 b00 b01
   by_cases hz:w0=0
   ·have hz':(w0==0)=true:=by simp[hz]
    have HR:Hid (hiPart w0 w1 w2 w3 0=hiPart w0 w1 w2 w3 1):=by
     show _=_
     simp[hiPart,hiOf,hz]
    clear hz
    go_wp2
    go_round
    case rel=>exact⟨1,by omega,rfl,by rw[HR.out]⟩
    decide
   ·have hz':(w0==0)=false:=by simp[hz]
    have HR:Hid (hiPart w0 w1 w2 w3 1=0+(Lib.bitLen w0.toNat:Int)-1):=by
     show _=_
     simp[hiPart,hiOf,hz]
    clear hz
    go_wp2_with (go_at_call 216;refine(len64_any w0 _ b00 b01).mono ?_;rintro e w' ⟨rfl,rfl⟩)
    go_round
    case rel=>exact⟨1,by omega,rfl,by rw[HR.out];go_num⟩
    decide
  ·have hl:=len_bd w1 b10 b11
   by_cases hz:w1=0
   ·have hz':(w1==0)=true:=by simp[hz]
    have HR:Hid (hiPart w0 w1 w2 w3 1=hiPart w0 w1 w2 w3 2):=by
     show _=_
     simp[hiPart,hiOf,hz]
    clear hz
    go_wp2
    go_round
    case rel=>exact⟨2,by omega,rfl,by rw[HR.out]⟩
    decide
   ·have hz':(w1==0)=false:=by simp[hz]
    have HR:Hid (hiPart w0 w1 w2 w3 2=64+(Lib.bitLen w1.toNat:Int)-1):=by
     show _=_
     simp[hiPart,hiOf,hz]
    clear hz
    go_wp2_with (go_at_call 216;refine(len64_any w1 _ b10 b11).mono ?_;rintro e w' ⟨rfl,rfl⟩)
    go_round
    case rel=>exact⟨2,by omega,rfl,by rw[HR.out]⟩
    decide
  ·have hl:=len_bd w2 b20 b21
   by_cases hz:w2=0
   ·have hz':(w2==0)=true:=by simp[hz]
    have HR:Hid (hiPart w0 w1 w2 w3 2=hiPart w0 w1 w2 w3 3):=by
     show _=_
     simp[hiPart,hiOf,hz]
    clear hz
    go_wp2
    go_round
    case rel=>exact⟨3,by omega,rfl,by rw[HR.out]⟩
    decide
   ·have hz':(w2==0)=false:=by simp[hz]
    have HR:Hid (hiPart w0 w1 w2 w3 3=128+(Lib.bitLen w2.toNat:Int)-1):=by
     show _=_
     simp[hiPart,hiOf,hz]
    clear hz
    go_wp2_with (go_at_call 216;refine(len64_any w2 _ b20 b21).mono ?_;rintro e w' ⟨rfl,rfl⟩)
    go_round
    case rel=>exact⟨3,by omega,rfl,by rw[HR.out]⟩
    decide
  ·have hl:=len_bd w3 b30 b31
   by_cases hz:w3=0
   ·have hz':(w3==0)=true:=by simp[hz]
    have HR:Hid (hiPart w0 w1 w2 w3 3=hiPart w0 w1 w2 w3 4):=by
     show _=_
     simp[hiPart,hiOf,hz]
    clear hz
    go_wp2
    go_round
    case rel=>exact⟨4,by omega,rfl,by rw[HR.out]⟩
    decide
   ·have hz':(w3==0)=false:=by simp[hz]
    have HR:Hid (hiPart w0 w1 w2 w3 4=192+(Lib.bitLen w3.toNat:Int)-1):=by
     show _=_
     simp[hiPart,hiOf,hz]
    clear hz
    go_wp2_with (go_at_call 216;refine(len64_any w3 _ b30 b31).mono ?_;rintro e w' ⟨rfl,rfl⟩)
    go_round
    case rel=>exact⟨4,by omega,rfl,by rw[HR.out]⟩
    decide
  ·go_wp2
   go_ret
   exact⟨rfl,_,rfl⟩
theorem highest_any (w0 w1 w2 w3:Int) (w:World) (b0:W64 w0) (b1:W64 w1) (b2:W64 w2) (b3:W64 w3):
  vCa 233 #[.agg #[vU6 w0,vU6 w1,vU6 w2,vU6 w3]] w fun e w'=>e= .returned (vI6 (hiBit w0 w1 w2 w3))∧ ∃c:Array Value,w'=w.alloc (.cells c 272):=by
 unfold hiBit
 by_cases h:w0=0∧w1=0∧w2=0∧w3=0
 ·rw[if_pos h];grind[Bq.highest_none]
 ·rw[if_neg h];grind[Bq.highest_some]
theorem bl_log: ∀(n x:Nat),x<2^n→n≤64→x≠0→2^(Lib.bitLen x-1)≤x∧x<2^(Lib.bitLen x)∧1≤Lib.bitLen x
 |0,x,h,_,h0=>by omega
 |n+1,x,h,hn,h0=>by
  have hx:=Nat.lt_of_lt_of_le h (Nat.pow_le_pow_right (by decide) hn)
  have e:=Lib.bitLen_half x h0 hx
  by_cases h1:x/2=0
  ·have hx1:x=1:=by omega
   subst hx1
   decide
  ·obtain⟨a,b,c⟩:=bl_log n (x/2) (by omega) (by omega) h1
   rw[e]
   obtain⟨L,hL⟩: ∃L,Lib.bitLen (x/2)=L+1:=⟨Lib.bitLen (x/2)-1,by omega⟩
   grind
theorem bl (x:Int) (h:W64 x) (h0:x≠0):2^(Lib.bitLen x.toNat-1)≤x.toNat∧x.toNat<2^(Lib.bitLen x.toNat)∧1≤Lib.bitLen x.toNat:=by
 obtain⟨l,m⟩:=h
 exact bl_log 64 x.toNat (by omega) (by omega) (by omega)
theorem hiBit_eq (w0 w1 w2 w3:Int):hiBit w0 w1 w2 w3=if w0=0∧w1=0∧w2=0∧w3=0 then-1 else hiOf w3 192 (hiOf w2 128 (hiOf w1 64 (hiOf w0 0 0))):=rfl
theorem hi_bd (w0 w1 w2 w3:Int) (b0:W64 w0) (b1:W64 w1) (b2:W64 w2) (b3:W64 w3): -1≤hiBit w0 w1 w2 w3∧hiBit w0 w1 w2 w3≤255:=by
 have l0:=len_bd w0 b0.1 b0.2;have l1:=len_bd w1 b1.1 b1.2;have l2:=len_bd w2 b2.1 b2.2;have l3:=len_bd w3 b3.1 b3.2
 grind[Bq.hiBit_eq,Bq.hiOf]
theorem hi_ge (w0 w1 w2 w3:Int) (b0:W64 w0) (b1:W64 w1) (b2:W64 w2) (b3:W64 w3):(w0≠0→0+(Lib.bitLen w0.toNat:Int)-1≤hiBit w0 w1 w2 w3)∧(w1≠0→64+(Lib.bitLen w1.toNat:Int)-1≤hiBit w0 w1 w2 w3)∧(w2≠0→128+(Lib.bitLen w2.toNat:Int)-1≤hiBit w0 w1 w2 w3)∧(w3≠0→192+(Lib.bitLen w3.toNat:Int)-1≤hiBit w0 w1 w2 w3):=by
 have l0:=len_bd w0 b0.1 b0.2;have l1:=len_bd w1 b1.1 b1.2;have l2:=len_bd w2 b2.1 b2.2;have l3:=len_bd w3 b3.1 b3.2
 have k0:w0≠0→1≤(Lib.bitLen w0.toNat:Int):=fun h=>by have:=(bl w0 b0 h).2.2;omega
 have k1:w1≠0→1≤(Lib.bitLen w1.toNat:Int):=fun h=>by have:=(bl w1 b1 h).2.2;omega
 have k2:w2≠0→1≤(Lib.bitLen w2.toNat:Int):=fun h=>by have:=(bl w2 b2 h).2.2;omega
 have k3:w3≠0→1≤(Lib.bitLen w3.toNat:Int):=fun h=>by have:=(bl w3 b3 h).2.2;omega
 grind[Bq.hiBit_eq,Bq.hiOf]
theorem hi_at (w0 w1 w2 w3:Int) (b0:W64 w0) (b1:W64 w1) (b2:W64 w2) (b3:W64 w3) (m:Int) (m0:0≤m) (m1:m<64):(hiBit w0 w1 w2 w3=0+m→w0≠0∧(Lib.bitLen w0.toNat:Int)-1=m)∧(hiBit w0 w1 w2 w3=64+m→w1≠0∧(Lib.bitLen w1.toNat:Int)-1=m)∧(hiBit w0 w1 w2 w3=128+m→w2≠0∧(Lib.bitLen w2.toNat:Int)-1=m)∧(hiBit w0 w1 w2 w3=192+m→w3≠0∧(Lib.bitLen w3.toNat:Int)-1=m):=by
 have l0:=len_bd w0 b0.1 b0.2;have l1:=len_bd w1 b1.1 b1.2;have l2:=len_bd w2 b2.1 b2.2;have l3:=len_bd w3 b3.1 b3.2
 have k0:w0≠0→1≤(Lib.bitLen w0.toNat:Int):=fun h=>by have:=(bl w0 b0 h).2.2;omega
 have k1:w1≠0→1≤(Lib.bitLen w1.toNat:Int):=fun h=>by have:=(bl w1 b1 h).2.2;omega
 have k2:w2≠0→1≤(Lib.bitLen w2.toNat:Int):=fun h=>by have:=(bl w2 b2 h).2.2;omega
 have k3:w3≠0→1≤(Lib.bitLen w3.toNat:Int):=fun h=>by have:=(bl w3 b3 h).2.2;omega
 rw[hiBit_eq]
 unfold hiOf
 omega
end Go.Proofs.YtnmhcgpnhlhcgaaGreatDoor.Bq
namespace Go.Proofs.YtnmhcgpnhlhcgaaGreatDoor.Bq
open Go.RowKit
structure Rep (w:World) (b g n:Nat) (F L:Nat→Nat) (M:Nat→Int) (c:Nat) (A B V:Nat→Nat) (T:Nat→Bool):Prop where
 bg:b≠g
 fst: ∀i,i<256→w.cell? (vAt b i)=some (vI6 (F i))
 lst: ∀i,i<256→w.cell? (vAt b (256+i))=some (vI6 (L i))
 msk: ∀i,i<4→w.cell? (vAt b (512+i))=some (vU6 (M i))
 sl: ∃cp,w.cell? (vAt b 516)=some (.slice (some (vA0 g)) (n+1) cp)
 cn:w.cell? (vAt b 517)=some (vI6 c)
 la: ∀s,s≤n→w.cell? (vAt g (s*4))=some (vI6 (A s))
 lb: ∀s,s≤n→w.cell? (vAt g (s*4+1))=some (vI6 (B s))
 lv: ∀s,s≤n→w.cell? (vAt g (s*4+2))=some (vU8 (V s))
 lt: ∀s,s≤n→w.cell? (vAt g (s*4+3))=some (.bool (T s))
 fb: ∀o,w.frozen? (vAt b o)=false
 fg: ∀o,w.frozen? (vAt g o)=false
section
variable {w:World} {b g n:Nat} {F L:Nat→Nat} {M:Nat→Int} {c:Nat} {A B V:Nat→Nat} {T:Nat→Bool}
theorem Rep.drew (h:Rep w b g n F L M c A B V T):Rep w.drew b g n F L M c A B V T:=⟨h.bg,h.fst,h.lst,h.msk,h.sl,h.cn,h.la,h.lb,h.lv,h.lt,h.fb,h.fg⟩
theorem Rep.lt_b (h:Rep w b g n F L M c A B V T):b<w.heap.size:=World.block_lt_of_cell? w (vAt b 517) h.cn
theorem Rep.lt_g (h:Rep w b g n F L M c A B V T):g<w.heap.size:=World.block_lt_of_cell? w (vAt g (0*4)) (h.la 0 (Nat.zero_le _))
theorem Rep.kept {w':World} (h:Rep w b g n F L M c A B V T) (hb:w'.heap[b]? =w.heap[b]?) (hg:w'.heap[g]? =w.heap[g]?):Rep w' b g n F L M c A B V T:=by
 have:=grB hb
 have:=grB hg
 exact mK
theorem Rep.alloc (h:Rep w b g n F L M c A B V T) (o:Obj):Rep (w.alloc o) b g n F L M c A B V T:=
 h.kept (Below.heap_alloc w o b h.lt_b) (Below.heap_alloc w o g h.lt_g)
theorem Rep.setF (h:Rep w b g n F L M c A B V T) (k:Nat) (hk:k<256) (x:Nat):Rep (w.setCell (vAt b k) (vI6 (x:Int))) b g n (upd F k x) L M c A B V T:=mK
theorem Rep.setL (h:Rep w b g n F L M c A B V T) (k:Nat) (hk:k<256) (x:Nat):Rep (w.setCell (vAt b (256+k)) (vI6 (x:Int))) b g n F (upd L k x) M c A B V T:=mK
theorem Rep.setM (h:Rep w b g n F L M c A B V T) (k:Nat) (hk:k<4) (x:Int):Rep (w.setCell (vAt b (512+k)) (vU6 x)) b g n F L (upd M k x) c A B V T:=mK
theorem Rep.setC (h:Rep w b g n F L M c A B V T) (x:Nat):Rep (w.setCell (vAt b 517) (vI6 (x:Int))) b g n F L M x A B V T:=mK
theorem Rep.setA (h:Rep w b g n F L M c A B V T) (k:Nat) (hk:k≤n) (x:Nat):Rep (w.setCell (vAt g (k*4)) (vI6 (x:Int))) b g n F L M c (upd A k x) B V T:=mK
theorem Rep.setB (h:Rep w b g n F L M c A B V T) (k:Nat) (hk:k≤n) (x:Nat):Rep (w.setCell (vAt g (k*4+1)) (vI6 (x:Int))) b g n F L M c A (upd B k x) V T:=mK
theorem Rep.setV (h:Rep w b g n F L M c A B V T) (k:Nat) (hk:k≤n) (x:Nat):Rep (w.setCell (vAt g (k*4+2)) (vU8 (x:Int))) b g n F L M c A B (upd V k x) T:=mK
theorem Rep.setT (h:Rep w b g n F L M c A B V T) (k:Nat) (hk:k≤n) (x:Bool):Rep (w.setCell (vAt g (k*4+3)) (.bool x)) b g n F L M c A B V (upd T k x):=mK
end
def orBit (m:Int) (lv:Nat):Int:=bits BinOp.or IntKind.u64 m (IntKind.u64.wrap (2^(lv%64)))
section
variable {w:World} {b g n:Nat} {F L:Nat→Nat} {M:Nat→Int} {c:Nat} {A B V:Nat→Nat} {T:Nat→Bool}
theorem tie_first (h:Rep w b g n F L M c A B V T) (lv sp:Nat) (hlv:lv<256) (hsp:sp≤n) (_hn:n≤1024) (hc:c≤1024) (h0:L lv=0):
  vCa 240 #[vPt b,vU8 lv,vI6 sp] w fun e w'=>e=vRt #[]∧
   Rep w' b g n (upd F lv sp) (upd L lv sp) (upd M (lv/64) (orBit (M (lv/64)) lv)) (c+1) (upd A sp 0) (upd B sp 0) (upd V sp lv) (upd T sp true)∧Only b g w w':=by
 have H:=veil h
 have e1:=h.lst lv hlv
 rw[h0] at e1
 have e1':w.cell? (vAt b (256+lv))=some (vI6 0):=e1
 have e2:=h.fst lv hlv
 obtain⟨cp,e3⟩:=h.sl
 have e4:=h.cn
 have e5:=h.msk (lv/64) (by omega)
 have e6:=h.la sp hsp
 have e7:=h.lb sp hsp
 have e8:=h.lv sp hsp
 have e9:=h.lt sp hsp
 have fb:=h.fb
 have fg:=h.fg
 have hbg:=h.bg
 have hgb:g≠b:=fun e=>hbg e.symm
 clear e1 h h0
 refine ge ?_
 go_wp2
 go_region
 go_wp2
 go_end0
 refine⟨rfl,?_,?_⟩
 ·exact((((((((H.out.setA sp hsp 0).setB sp hsp 0).setV sp hsp lv).setT sp hsp true).setF lv hlv sp).setM (lv/64) (by omega) _).setL lv hlv sp).setC (c+1)).drew
 ·exact((((((((((Only.refl b g w).set _ _ (Or.inr rfl)).set _ _ (Or.inr rfl)).set _ _ (Or.inr rfl)).set _ _ (Or.inr rfl)).set _ _ (Or.inl rfl)).set _ _ (Or.inl rfl)).set _ _ (Or.inl rfl)).set _ _ (Or.inl rfl))).drew
theorem tie_more (h:Rep w b g n F L M c A B V T) (lv sp la:Nat) (hlv:lv<256) (hsp:sp≤n) (_hn:n≤1024) (hc:c≤1024) (h0:L lv=la) (h1:1≤la) (h2:la≤n) (h3:la≠sp):
  vCa 240 #[vPt b,vU8 lv,vI6 sp] w fun e w'=>e=vRt #[]∧
   Rep w' b g n F (upd L lv sp) M (c+1) (upd A sp la) (upd (upd B sp 0) la sp) (upd V sp lv) (upd T sp true)∧Only b g w w':=by
 have H:=veil h
 have e1:=h.lst lv hlv
 rw[h0] at e1
 have e2:=h.fst lv hlv
 obtain⟨cp,e3⟩:=h.sl
 have e4:=h.cn
 have e6:=h.la sp hsp
 have e7:=h.lb sp hsp
 have e8:=h.lv sp hsp
 have e9:=h.lt sp hsp
 have e10:=h.lb la h2
 have fb:=h.fb
 have fg:=h.fg
 have hbg:=h.bg
 have hgb:g≠b:=fun e=>hbg e.symm
 have hne:((la:Int)==0)=false:=by grind
 have n0: ¬sp*4=la*4+1:=by omega
 have n1: ¬sp*4+1=la*4+1:=by omega
 have n2: ¬sp*4+2=la*4+1:=by omega
 have n3: ¬sp*4+3=la*4+1:=by omega
 clear h h0
 refine ge ?_
 go_wp2
 go_end0
 refine⟨rfl,?_,?_⟩
 ·exact(((((((H.out.setA sp hsp la).setB sp hsp 0).setV sp hsp lv).setT sp hsp true).setB la h2 sp).setL lv hlv sp).setC (c+1))
 ·exact((((((((Only.refl b g w).set _ _ (Or.inr rfl)).set _ _ (Or.inr rfl)).set _ _ (Or.inr rfl)).set _ _ (Or.inr rfl)).set _ _ (Or.inr rfl)).set _ _ (Or.inl rfl)).set _ _ (Or.inl rfl))
def andBit (m:Int) (lv:Nat):Int:=bits BinOp.andNot IntKind.u64 m (IntKind.u64.wrap (2^(lv%64)))
theorem untie_only (h:Rep w b g n F L M (c+1) A B V T) (sp lv:Nat) (hsp:sp≤n) (hlv:lv<256) (_hn:n≤1024) (hc:c≤1024) (hA:A sp=0) (hB:B sp=0) (hV:V sp=lv):
  vCa 223 #[vPt b,vI6 sp] w fun e w'=>e=vRt #[]∧
   Rep w' b g n (upd F lv 0) (upd L lv 0) (upd M (lv/64) (andBit (M (lv/64)) lv)) c (upd A sp 0) (upd B sp 0) (upd V sp 0) (upd T sp false)∧Only b g w w':=by
 have H:=veil h
 obtain⟨cp,e1⟩:=h.sl
 have e2:w.cell? (vAt b 517)=some (vI6 ((c:Int)+1)):=h.cn
 have e3:=h.la sp hsp
 have e4:=h.lb sp hsp
 have e5:=h.lv sp hsp
 have e6:=h.lt sp hsp
 rw[hA] at e3
 rw[hB] at e4
 rw[hV] at e5
 have e7:=h.fst lv hlv
 have e8:=h.lst lv hlv
 have e9:=h.msk (lv/64) (by omega)
 have fb:=h.fb
 have fg:=h.fg
 have hbg:=h.bg
 have hgb:g≠b:=fun e=>hbg e.symm
 have zb:=h.lt_b
 have zg:=h.lt_g
 have yb: ¬b=w.heap.size:=by omega
 have yg: ¬g=w.heap.size:=by omega
 have e3':w.cell? (vAt g (sp*4))=some (vI6 0):=e3
 have e4':w.cell? (vAt g (sp*4+1))=some (vI6 0):=e4
 clear h hA hB hV e3 e4
 refine ge ?_
 go_wp2
 go_region
 go_wp2
 go_region
 go_wp2
 go_region
 go_wp2
 go_region
 go_wp2
 go_end0
 refine⟨rfl,?_,?_⟩
 ·exact((((((((((H.out.setF lv hlv 0).setL lv hlv 0).setM (lv/64) (by omega) _).setA sp hsp 0).setB sp hsp 0).setV sp hsp 0).setT sp hsp false).setC c)).alloc _).drew.drew.drew.drew
 ·exact((((((((((Only.refl b g w).set _ _ (Or.inl rfl)).set _ _ (Or.inl rfl)).set _ _ (Or.inl rfl)).set _ _ (Or.inr rfl)).set _ _ (Or.inr rfl)).set _ _ (Or.inr rfl)).set _ _ (Or.inr rfl)).set _ _ (Or.inl rfl)).alloc _).drew.drew.drew.drew
theorem untie_head (h:Rep w b g n F L M (c+1) A B V T) (sp lv:Nat) (hsp:sp≤n) (hlv:lv<256) (_hn:n≤1024) (hc:c≤1024) (y:Nat) (hA:A sp=0) (hB:B sp=y) (hV:V sp=lv) (hy:y≤n) (hy1:1≤y) (hys:y≠sp):
  vCa 223 #[vPt b,vI6 sp] w fun e w'=>e=vRt #[]∧
   Rep w' b g n (upd F lv y) L M c (upd (upd A y 0) sp 0) (upd B sp 0) (upd V sp 0) (upd T sp false)∧Only b g w w':=by
 have H:=veil h
 obtain⟨cp,e1⟩:=h.sl
 have e2:w.cell? (vAt b 517)=some (vI6 ((c:Int)+1)):=h.cn
 have e3:=h.la sp hsp
 have e4:=h.lb sp hsp
 have e5:=h.lv sp hsp
 have e6:=h.lt sp hsp
 rw[hA] at e3
 rw[hB] at e4
 rw[hV] at e5
 have e7:=h.fst lv hlv
 have e8:=h.lst lv hlv
 have e9:=h.msk (lv/64) (by omega)
 have fb:=h.fb
 have fg:=h.fg
 have hbg:=h.bg
 have hgb:g≠b:=fun e=>hbg e.symm
 have zb:=h.lt_b
 have zg:=h.lt_g
 have yb: ¬b=w.heap.size:=by omega
 have yg: ¬g=w.heap.size:=by omega
 have ny:((y:Int)==0)=false:=by grind
 have y0: ¬y*4=sp*4:=by omega
 have y1: ¬y*4=sp*4+1:=by omega
 have y2: ¬y*4=sp*4+2:=by omega
 have y3: ¬y*4=sp*4+3:=by omega
 have ey:=h.la y hy
 have e3':w.cell? (vAt g (sp*4))=some (vI6 0):=e3
 clear h hA hB hV e3
 refine ge ?_
 go_wp2
 go_region
 go_wp2
 go_region
 go_wp2
 go_region
 go_wp2
 go_end0
 refine⟨rfl,?_,?_⟩
 ·exact(((((((((H.out.setF lv hlv y).setA y hy 0).setA sp hsp 0).setB sp hsp 0).setV sp hsp 0).setT sp hsp false).setC c)).alloc _).drew.drew.drew
 ·exact(((((((((Only.refl b g w).set _ _ (Or.inl rfl)).set _ _ (Or.inr rfl)).set _ _ (Or.inr rfl)).set _ _ (Or.inr rfl)).set _ _ (Or.inr rfl)).set _ _ (Or.inr rfl)).set _ _ (Or.inl rfl)).alloc _).drew.drew.drew
theorem untie_last (h:Rep w b g n F L M (c+1) A B V T) (sp lv:Nat) (hsp:sp≤n) (hlv:lv<256) (_hn:n≤1024) (hc:c≤1024) (x f:Nat) (hA:A sp=x) (hB:B sp=0) (hV:V sp=lv) (hF:F lv=f) (hf:1≤f) (hx:x≤n) (hx1:1≤x) (hxs:x≠sp):
  vCa 223 #[vPt b,vI6 sp] w fun e w'=>e=vRt #[]∧
   Rep w' b g n F (upd L lv x) M c (upd A sp 0) (upd (upd B x 0) sp 0) (upd V sp 0) (upd T sp false)∧Only b g w w':=by
 have H:=veil h
 obtain⟨cp,e1⟩:=h.sl
 have e2:w.cell? (vAt b 517)=some (vI6 ((c:Int)+1)):=h.cn
 have e3:=h.la sp hsp
 have e4:=h.lb sp hsp
 have e5:=h.lv sp hsp
 have e6:=h.lt sp hsp
 rw[hA] at e3
 rw[hB] at e4
 rw[hV] at e5
 have e7:=h.fst lv hlv
 have e8:=h.lst lv hlv
 have e9:=h.msk (lv/64) (by omega)
 have fb:=h.fb
 have fg:=h.fg
 have hbg:=h.bg
 have hgb:g≠b:=fun e=>hbg e.symm
 have zb:=h.lt_b
 have zg:=h.lt_g
 have yb: ¬b=w.heap.size:=by omega
 have yg: ¬g=w.heap.size:=by omega
 have nx:((x:Int)==0)=false:=by grind
 have x0: ¬x*4+1=sp*4:=by omega
 have x1: ¬x*4+1=sp*4+1:=by omega
 have x2: ¬x*4+1=sp*4+2:=by omega
 have x3: ¬x*4+1=sp*4+3:=by omega
 have ex:=h.lb x hx
 have nf:((f:Int)==0)=false:=by grind
 rw[hF] at e7
 have e4':w.cell? (vAt g (sp*4+1))=some (vI6 0):=e4
 clear h hA hB hV hF e4
 refine ge ?_
 go_wp2
 go_region
 go_wp2
 go_region
 go_wp2
 go_region
 go_wp2
 go_end0
 refine⟨rfl,?_,?_⟩
 ·exact(((((((((H.out.setB x hx 0).setL lv hlv x).setA sp hsp 0).setB sp hsp 0).setV sp hsp 0).setT sp hsp false).setC c)).alloc _).drew.drew.drew
 ·exact(((((((((Only.refl b g w).set _ _ (Or.inr rfl)).set _ _ (Or.inl rfl)).set _ _ (Or.inr rfl)).set _ _ (Or.inr rfl)).set _ _ (Or.inr rfl)).set _ _ (Or.inr rfl)).set _ _ (Or.inl rfl)).alloc _).drew.drew.drew
theorem untie_mid (h:Rep w b g n F L M (c+1) A B V T) (sp lv:Nat) (hsp:sp≤n) (hlv:lv<256) (_hn:n≤1024) (hc:c≤1024) (x y f:Nat) (hA:A sp=x) (hB:B sp=y) (hV:V sp=lv) (hF:F lv=f) (hf:1≤f) (hx:x≤n) (hx1:1≤x) (hxs:x≠sp) (hy:y≤n) (hy1:1≤y) (hys:y≠sp):
  vCa 223 #[vPt b,vI6 sp] w fun e w'=>e=vRt #[]∧
   Rep w' b g n F L M c (upd (upd A y x) sp 0) (upd (upd B x y) sp 0) (upd V sp 0) (upd T sp false)∧Only b g w w':=by
 have H:=veil h
 obtain⟨cp,e1⟩:=h.sl
 have e2:w.cell? (vAt b 517)=some (vI6 ((c:Int)+1)):=h.cn
 have e3:=h.la sp hsp
 have e4:=h.lb sp hsp
 have e5:=h.lv sp hsp
 have e6:=h.lt sp hsp
 rw[hA] at e3
 rw[hB] at e4
 rw[hV] at e5
 have e7:=h.fst lv hlv
 have e8:=h.lst lv hlv
 have e9:=h.msk (lv/64) (by omega)
 have fb:=h.fb
 have fg:=h.fg
 have hbg:=h.bg
 have hgb:g≠b:=fun e=>hbg e.symm
 have zb:=h.lt_b
 have zg:=h.lt_g
 have yb: ¬b=w.heap.size:=by omega
 have yg: ¬g=w.heap.size:=by omega
 have ny:((y:Int)==0)=false:=by grind
 have y0: ¬y*4=sp*4:=by omega
 have y1: ¬y*4=sp*4+1:=by omega
 have y2: ¬y*4=sp*4+2:=by omega
 have y3: ¬y*4=sp*4+3:=by omega
 have ey:=h.la y hy
 have nx:((x:Int)==0)=false:=by grind
 have x0: ¬x*4+1=sp*4:=by omega
 have x1: ¬x*4+1=sp*4+1:=by omega
 have x2: ¬x*4+1=sp*4+2:=by omega
 have x3: ¬x*4+1=sp*4+3:=by omega
 have ex:=h.lb x hx
 have nf:((f:Int)==0)=false:=by grind
 rw[hF] at e7
 have xy: ¬x*4+1=y*4:=by omega
 clear h hA hB hV hF
 refine ge ?_
 go_wp2
 go_region
 go_wp2
 go_region
 go_wp2
 go_region
 go_wp2
 go_end0
 refine⟨rfl,?_,?_⟩
 ·exact(((((((((H.out.setB x hx y).setA y hy x).setA sp hsp 0).setB sp hsp 0).setV sp hsp 0).setT sp hsp false).setC c)).alloc _).drew.drew.drew
 ·exact(((((((((Only.refl b g w).set _ _ (Or.inr rfl)).set _ _ (Or.inr rfl)).set _ _ (Or.inr rfl)).set _ _ (Or.inr rfl)).set _ _ (Or.inr rfl)).set _ _ (Or.inr rfl)).set _ _ (Or.inl rfl)).alloc _).drew.drew.drew
end
end Go.Proofs.YtnmhcgpnhlhcgaaGreatDoor.Bq
namespace Go.Proofs.YtnmhcgpnhlhcgaaGreatDoor.Bq
def QL (R:List (Nat×Nat)) (lv:Nat):List Nat:=(R.filter (fun it=>it.2==lv)).map (fun it=>it.1+1)
def Chain (A B:Nat→Nat):Nat→List Nat→Prop
 |_,[]=>True
 |p,x::xs=>A x=p∧B x=xs.headD 0∧Chain A B x xs
theorem chain_congr (A B A' B':Nat→Nat): ∀(l:List Nat) (p:Nat),(∀s∈l,A' s=A s∧B' s=B s)→Chain A B p l→Chain A' B' p l
 |[],_,_,_=>trivial
 |x::xs,p,h,hc=>by
  obtain⟨a,b,c⟩:=hc
  obtain⟨ha,hb⟩:=h x (by simp)
  exact⟨ha.trans a,hb.trans b,chain_congr A B A' B' xs x (by grind) c⟩
theorem lastD_mem: ∀(l:List Nat) (p:Nat),l≠[]→l.getLastD p∈l
 |[],_,h=>absurd rfl h
 |[x],p,_=>by simp
 |x::y::ys,p,_=>by
  grind
theorem chain_snoc (A B A' B':Nat→Nat) (sp:Nat): ∀(l:List Nat) (p:Nat),l.Nodup→Chain A B p l→A' sp=l.getLastD p→B' sp=0→(∀s∈l,A' s=A s)→
  (∀s∈l,B' s=if s=l.getLastD p then sp else B s)→Chain A' B' p (l++[sp])
 |[],p,_,_,h1,h2,_,_=>⟨h1,h2,trivial⟩
 |x::xs,p,hn,hc,h1,h2,h3,h4=>by
  obtain⟨a,b,c⟩:=hc
  rw[List.nodup_cons] at hn
  rw[List.getLastD_cons] at h1 h4
  refine⟨(by grind),?_,chain_snoc A B A' B' sp xs x hn.2 c h1 h2 (by grind) (by grind)⟩
  rw[h4 x (by simp)]
  cases xs with
  |nil=>simp
  |cons y ys=>
   have hx:x≠(y::ys).getLastD x:=fun e=>hn.1 (by grind)
   simp_all
theorem chain_mid (A B:Nat→Nat) (sp:Nat) (l2:List Nat): ∀(l1:List Nat) (p:Nat),Chain A B p (l1++sp::l2)→A sp=l1.getLastD p∧B sp=l2.headD 0∧Chain A B sp l2
 |[],p,h=>⟨h.1,h.2.1,h.2.2⟩
 |x::xs,p,h=>by
  have:=chain_mid A B sp l2 xs x h.2.2
  grind
theorem chain_remove (A B A' B':Nat→Nat) (sp:Nat) (l2:List Nat): ∀(l1:List Nat) (p:Nat),(l1++sp::l2).Nodup→Chain A B p (l1++sp::l2)→
  (∀s∈l1,A' s=A s)→(∀s∈l2,A' s=if s=l2.headD 0 then l1.getLastD p else A s)→(∀s∈l1,B' s=if s=l1.getLastD p then l2.headD 0 else B s)→(∀s∈l2,B' s=B s)→Chain A' B' p (l1++l2)
 |[],p,hn,hc,_,h2,_,h4=>by
  cases l2 with
  |nil=>trivial
  |cons y ys=>
   obtain⟨_,_,a,b,c⟩:=hc
   simp only[List.nil_append,List.nodup_cons] at hn
   refine⟨by grind,(by grind),chain_congr A B A' B' ys y (fun s hs=>⟨?_,(by grind)⟩) c⟩
   grind
 |x::xs,p,hn,hc,h1,h2,h3,h4=>by
  obtain⟨a,b,c⟩:=hc
  simp only[List.cons_append,List.nodup_cons] at hn
  rw[List.getLastD_cons] at h2 h3
  refine⟨(by grind),?_,chain_remove A B A' B' sp l2 xs x hn.2 c (by grind) h2 (by grind) h4⟩
  rw[h3 x (by simp)]
  cases xs with
  |nil=>simp
  |cons y ys=>
   have hx:x≠(y::ys).getLastD x:=fun e=>(by grind)
   simp_all
structure Inv (n:Nat) (F L m:Nat→Nat) (c:Nat) (A B V:Nat→Nat) (T:Nat→Bool) (R:List (Nat×Nat)):Prop where
 ids:(R.map (·.1)).Nodup
 rng: ∀it∈R,it.1<n∧it.2<256
 there: ∀s,s≤n→(T s=true↔ ∃it∈R,it.1+1=s)
 lev: ∀it∈R,V (it.1+1)=it.2
 nolev: ∀s,s≤n→T s=false→V s=0
 ch: ∀lv,lv<256→Chain A B 0 (QL R lv)
 hd: ∀lv,lv<256→F lv=(QL R lv).headD 0
 tl: ∀lv,lv<256→L lv=(QL R lv).getLastD 0
 bit: ∀lv,lv<256→(m (lv/64)).testBit (lv%64)= !(QL R lv).isEmpty
 mlt: ∀i,i<4→m i<18446744073709551616
 cnt:c=R.length
theorem mem_QL {R:List (Nat×Nat)} {lv s:Nat}:s∈QL R lv↔ ∃it∈R,it.2=lv∧it.1+1=s:=by
 unfold QL
 simp only[List.mem_map,List.mem_filter,beq_iff_eq]
 grind
theorem QL_snoc (R:List (Nat×Nat)) (id lv k:Nat):QL (R++[(id,lv)]) k=if k=lv then QL R k++[id+1] else QL R k:=by
 unfold QL
 grind
theorem QL_nodup {R:List (Nat×Nat)} (h:(R.map (·.1)).Nodup) (lv:Nat):(QL R lv).Nodup:=by
 grind[Bq.QL]
theorem orBit_nat (x lv:Nat) (h:x<18446744073709551616):orBit (x:Int) lv=((x|||2^(lv%64):Nat):Int):=by
 have hp:2^(lv%64)≤2^63:=Nat.pow_le_pow_right (by decide) (by omega)
 have h63:(2:Nat)^63=9223372036854775808:=by decide
 unfold orBit
 have e:IntKind.u64.wrap ((2:Int)^(lv%64))=((2^(lv%64):Nat):Int):=by
  grind[IntKind.wrap_u64]
 rw[e,bits_or_u64_nat x _ h (by omega)]
theorem andBit_nat (x lv:Nat) (h:x<18446744073709551616):andBit (x:Int) lv=((x&&&(18446744073709551615-2^(lv%64)):Nat):Int):=by
 have hp:2^(lv%64)≤2^63:=Nat.pow_le_pow_right (by decide) (by omega)
 have h63:(2:Nat)^63=9223372036854775808:=by decide
 unfold andBit
 have e:IntKind.u64.wrap ((2:Int)^(lv%64))=((2^(lv%64):Nat):Int):=by
  grind[IntKind.wrap_u64]
 rw[e,u64_andNot_nat x _ h (by omega)]
theorem or_lt (x lv:Nat) (h:x<18446744073709551616):x|||2^(lv%64)<18446744073709551616:=
 Nat.or_lt_two_pow (n:=64) h (Nat.pow_lt_pow_right (by decide) (by omega))
theorem and_lt (x y:Nat) (h:x<18446744073709551616):x&&&y<18446744073709551616:=Nat.lt_of_le_of_lt Nat.and_le_left h
theorem or_bit (x k j:Nat):(x|||2^k).testBit j=(x.testBit j||decide (k=j)):=by
 grind
theorem and_bit (x k j:Nat) (hk:k<64) (hj:j<64):(x&&&(18446744073709551615-2^k)).testBit j=(x.testBit j&& !decide (k=j)):=by
 rw[Nat.testBit_and]
 congr 1
 have e:18446744073709551615-2^k=2^64-(2^k+1):=by
  omega
 rw[e,Nat.testBit_two_pow_sub_succ (Nat.pow_lt_pow_right (by decide) hk),Nat.testBit_two_pow]
 simp[hj]
theorem QL_pos {R:List (Nat×Nat)} {lv s:Nat} (h:s∈QL R lv):1≤s:=by
 obtain⟨it,_,_,e⟩:=mem_QL.1 h;omega
theorem headD_mem: ∀(l:List Nat),l≠[]→l.headD 0∈l
 |[],h=>absurd rfl h
 |x::xs,_=>by simp
section
variable {n:Nat} {F L m:Nat→Nat} {c:Nat} {A B V:Nat→Nat} {T:Nat→Bool} {R:List (Nat×Nat)}
theorem Inv.spot_le (h:Inv n F L m c A B V T R) {lv s:Nat} (hs:s∈QL R lv):s≤n∧T s=true∧V s=lv∧1≤s:=by
 obtain⟨it,hi,e1,e2⟩:=mem_QL.1 hs
 exact mK
theorem Inv.last_zero (h:Inv n F L m c A B V T R) (lv:Nat) (hlv:lv<256):L lv=0↔QL R lv=[]:=by
 rw[h.tl lv hlv]
 constructor
 ·intro e
  apply Classical.byContradiction
  grind[Bq.lastD_mem,Bq.QL]
 grind
theorem Inv.first_zero (h:Inv n F L m c A B V T R) (lv:Nat) (hlv:lv<256):F lv=0↔QL R lv=[]:=by
 rw[h.hd lv hlv]
 constructor
 ·intro e
  apply Classical.byContradiction
  grind[Bq.headD_mem,Bq.QL]
 grind
theorem push_ids {id lv:Nat} (h:Inv n F L m c A B V T R) (hid: ∀it∈R,it.1≠id):((R++[(id,lv)]).map (·.1)).Nodup:=by
 grind[Bq.Inv.ids]
theorem push_rng {id lv:Nat} (h:Inv n F L m c A B V T R) (hi:id<n) (hlv:lv<256): ∀it∈R++[(id,lv)],it.1<n∧it.2<256:=by
 intro it hit
 exact mK
theorem push_there {id lv:Nat} (h:Inv n F L m c A B V T R): ∀s,s≤n→(upd T (id+1) true s=true↔ ∃it∈R++[(id,lv)],it.1+1=s):=by
 intro s hs
 by_cases e:s=id+1
 ·subst e;rw[upd_same];simp
 ·rw[upd_other _ _ _ _ e,h.there s hs]
  constructor
  ·simp_all
  grind
theorem push_lev {id lv:Nat} (h:Inv n F L m c A B V T R) (hid: ∀it∈R,it.1≠id): ∀it∈R++[(id,lv)],upd V (id+1) lv (it.1+1)=it.2:=by
 intro it hit
 rcases List.mem_append.1 hit with a|a
 ·grind[upd_other,Bq.Inv.lev]
 grind[upd]
theorem push_nolev {id lv:Nat} (h:Inv n F L m c A B V T R): ∀s,s≤n→upd T (id+1) true s=false→upd V (id+1) lv s=0:=by
 grind[upd,Bq.Inv.nolev]
theorem push_notin {id:Nat} (hid: ∀it∈R,it.1≠id) (k:Nat):id+1 ∉ QL R k:=by
 intro hm
 obtain⟨it,a,_,e⟩:=mem_QL.1 hm
 grind
theorem inv_push_first {id lv:Nat} (h:Inv n F L m c A B V T R) (hi:id<n) (hlv:lv<256) (hid: ∀it∈R,it.1≠id) (he:QL R lv=[]):
  Inv n (upd F lv (id+1)) (upd L lv (id+1)) (upd m (lv/64) (m (lv/64)|||2^(lv%64))) (c+1) (upd A (id+1) 0) (upd B (id+1) 0) (upd V (id+1) lv) (upd T (id+1) true) (R++[(id,lv)]) where
 ids:=push_ids h hid
 rng:=push_rng h hi hlv
 there:=push_there h
 lev:=push_lev h hid
 nolev:=push_nolev h
 ch:=by
  intro k hk
  rw[QL_snoc]
  split
  ·rename_i e;subst e
   rw[he]
   exact⟨upd_same _ _ _,upd_same _ _ _,trivial⟩
  ·refine chain_congr A B _ _ _ _ (fun s hs=> ?_) (h.ch k hk)
   grind[Bq.push_notin,upd]
 hd:=by
  grind[Bq.QL_snoc,upd,Bq.Inv.hd]
 tl:=by
  grind[Bq.QL_snoc,upd,Bq.Inv.tl]
 bit:=by
  intro k hk
  rw[QL_snoc]
  by_cases e:k=lv
  ·grind[upd]
  ·rw[if_neg e]
   grind[upd_same,Bq.Inv.bit,upd_other]
 mlt:=by
  grind[upd_same,Bq.or_lt,Bq.Inv.mlt,upd_other]
 cnt:=by rw[h.cnt];simp
theorem inv_push_more {id lv:Nat} (h:Inv n F L m c A B V T R) (hi:id<n) (hlv:lv<256) (hid: ∀it∈R,it.1≠id) (he:QL R lv≠[]):
  Inv n F (upd L lv (id+1)) m (c+1) (upd A (id+1) (L lv)) (upd (upd B (id+1) 0) (L lv) (id+1)) (upd V (id+1) lv) (upd T (id+1) true) (R++[(id,lv)]) where
 ids:=push_ids h hid
 rng:=push_rng h hi hlv
 there:=push_there h
 lev:=push_lev h hid
 nolev:=push_nolev h
 ch:=by
  intro k hk
  have hlm:L lv∈QL R lv:=by grind[Bq.Inv.tl,Bq.lastD_mem]
  have hls:L lv≠id+1:=fun e=>push_notin hid lv (e▸hlm)
  rw[QL_snoc]
  split
  ·rename_i e;subst e
   refine chain_snoc A B _ _ _ _ _ (QL_nodup h.ids _) (h.ch k hk) ?_ ?_ (fun s hs=> ?_) (fun s hs=> ?_)
   ·rw[upd_same];exact h.tl k hk
   ·grind[upd]
   ·grind[upd_other,Bq.push_notin]
   grind[Bq.Inv.tl,upd,Bq.push_notin]
  ·rename_i e
   refine chain_congr A B _ _ _ _ (fun s hs=> ?_) (h.ch k hk)
   have hne:s≠id+1:=fun e=>push_notin hid k (e▸hs)
   have hnl:s≠L lv:=by
    rintro rfl
    have a:=(h.spot_le hs).2.2.1
    have b:=(h.spot_le hlm).2.2.1
    omega
   grind[upd]
 hd:=by
  intro k hk
  rw[QL_snoc]
  split
  ·rename_i e;subst e
   rw[h.hd k hk]
   cases hq:QL R k with
   |nil=>grind
   |cons x xs=>rfl
  ·exact h.hd k hk
 tl:=by
  grind[Bq.QL_snoc,upd,Bq.Inv.tl]
 bit:=by
  intro k hk
  rw[QL_snoc]
  by_cases e:k=lv
  ·subst e
   rw[if_pos rfl,h.bit k hk]
   cases hq:QL R k with
   |nil=>grind
   |cons x xs=>rfl
  ·rw[if_neg e];exact h.bit k hk
 mlt:=h.mlt
 cnt:=by rw[h.cnt];simp
end
theorem QL_append (R1 R2:List (Nat×Nat)) (k:Nat):QL (R1++R2) k=QL R1 k++QL R2 k:=by
 unfold QL;simp
theorem QL_cons (id lv:Nat) (R:List (Nat×Nat)) (k:Nat):QL ((id,lv)::R) k=if k=lv then(id+1)::QL R k else QL R k:=by
 unfold QL
 grind
section
variable {n:Nat} {F L m:Nat→Nat} {c:Nat} {A B V:Nat→Nat} {T:Nat→Bool} {R1 R2:List (Nat×Nat)} {id lv:Nat}
theorem cut_ids (h:Inv n F L m (c+1) A B V T (R1++(id,lv)::R2)):((R1++R2).map (·.1)).Nodup∧(∀it∈R1++R2,it.1≠id):=by
 have h0:=h.ids
 grind
theorem inv_cut (h:Inv n F L m (c+1) A B V T (R1++(id,lv)::R2)) (F' L' m' A' B':Nat→Nat)
  (hF: ∀k,k<256→F' k=if k=lv∧QL R1 lv=[] then(QL R2 lv).headD 0 else F k)
  (hL: ∀k,k<256→L' k=if k=lv∧QL R2 lv=[] then(QL R1 lv).getLastD 0 else L k)
  (hA: ∀s,s≠id+1→A' s=if QL R2 lv≠[]∧s=(QL R2 lv).headD 0 then(QL R1 lv).getLastD 0 else A s)
  (hB: ∀s,s≠id+1→B' s=if QL R1 lv≠[]∧s=(QL R1 lv).getLastD 0 then(QL R2 lv).headD 0 else B s)
  (hm: ∀k,k<256→(m' (k/64)).testBit (k%64)=if k=lv then !(QL R1 lv++QL R2 lv).isEmpty else(m (k/64)).testBit (k%64))
  (hml: ∀i,i<4→m' i<18446744073709551616):
  Inv n F' L' m' c A' B' (upd V (id+1) 0) (upd T (id+1) false) (R1++R2):=by
 obtain⟨hids,hnot⟩:=cut_ids h
 have hmem: ∀it,it∈R1++R2→it∈R1++(id,lv)::R2:=by
  grind
 have hlv:=(h.rng (id,lv) (by simp)).2
 have hq:QL (R1++(id,lv)::R2) lv=QL R1 lv++(id+1)::QL R2 lv:=by rw[QL_append,QL_cons,if_pos rfl]
 have hqo: ∀k,k≠lv→QL (R1++(id,lv)::R2) k=QL (R1++R2) k:=by
  intro k hk;rw[QL_append,QL_cons,if_neg hk,QL_append]
 have hnd:=QL_nodup h.ids lv
 rw[hq] at hnd
 have hch:=h.ch lv hlv
 rw[hq] at hch
 have hnd2:=hnd
 rw[List.nodup_append,List.nodup_cons] at hnd2
 have hn1: ∀s∈QL R1 lv,s≠id+1:=fun s hs e=>(by grind)
 have hn2: ∀s∈QL R2 lv,s≠id+1:=fun s hs e=>(by grind)
 have hn12: ∀s∈QL R1 lv,s ∉ QL R2 lv:=fun s hs hs2=>(by grind)
 refine⟨hids,fun it hit=>mK,?_,?_,?_,?_,?_,?_,?_,hml,?_⟩
 ·grind[upd,Bq.Inv.there]
 ·intro it hit
  grind[upd_other,Bq.Inv.lev]
 ·grind[upd,Bq.Inv.nolev]
 ·intro k hk
  by_cases e:k=lv
  ·subst e
   rw[QL_append]
   refine chain_remove A B A' B' (id+1) (QL R2 k) (QL R1 k) 0 hnd hch (fun s hs=> ?_) (fun s hs=> ?_) (fun s hs=> ?_) (fun s hs=> ?_)
   ·rw[hA s (hn1 s hs),if_neg]
    grind[Bq.headD_mem]
   ·grind
   ·grind
   ·rw[hB s (hn2 s hs),if_neg]
    grind[Bq.lastD_mem]
  ·rw[←hqo k e]
   refine chain_congr A B A' B' _ _ (fun s hs=> ?_) (h.ch k hk)
   have hv:=(h.spot_le hs).2.2.1
   have hns:s≠id+1:=by
    rintro rfl
    have:=h.lev (id,lv) (by simp)
    grind
   constructor
   ·rw[hA s hns,if_neg]
    rintro⟨hne,e'⟩
    have hin:s∈QL (R1++(id,lv)::R2) lv:=by grind[Bq.headD_mem]
    have:=(h.spot_le hin).2.2.1
    omega
   ·rw[hB s hns,if_neg]
    rintro⟨hne,e'⟩
    have hin:s∈QL (R1++(id,lv)::R2) lv:=by grind[Bq.lastD_mem]
    have:=(h.spot_le hin).2.2.1
    omega
 ·intro k hk
  rw[hF k hk]
  by_cases e:k=lv
  ·subst e
   rw[QL_append]
   by_cases e1:QL R1 k=[]
   ·grind
   ·rw[if_neg (by grind),h.hd k hk,hq]
    cases hx:QL R1 k with
    |nil=>grind
    |cons x xs=>rfl
  ·rw[if_neg (by omega),h.hd k hk,hqo k e]
 ·intro k hk
  rw[hL k hk]
  by_cases e:k=lv
  ·subst e
   rw[QL_append]
   by_cases e1:QL R2 k=[]
   ·grind
   ·rw[if_neg (by grind),h.tl k hk,hq]
    grind
  ·rw[if_neg (by omega),h.tl k hk,hqo k e]
 ·intro k hk
  rw[hm k hk]
  by_cases e:k=lv
  ·subst e;rw[if_pos rfl,QL_append]
  ·rw[if_neg e,h.bit k hk,hqo k e]
 ·have:=h.cnt
  grind
end
open Go.RowKit
theorem nodup_le: ∀(n:Nat) (l:List Nat),l.Nodup→(∀x∈l,x<n)→l.length≤n
 |0,l,_,h=>by
  cases l with
  |nil=>simp
  |cons x xs=>exact absurd (h x (by simp)) (by omega)
 |n+1,l,hn,h=>by
  have h1:=nodup_le n (l.erase n) (hn.erase n) (by grind)
  grind
def IsQ (w:World) (b g n:Nat) (R:List (Nat×Nat)):Prop:=
 n≤1024∧ ∃(F L m:Nat→Nat) (c:Nat) (A B V:Nat→Nat) (T:Nat→Bool),Rep w b g n F L (fun i=>(m i:Int)) c A B V T∧Inv n F L m c A B V T R
theorem IsQ.kept {w w':World} {b g n:Nat} {R:List (Nat×Nat)} (h:IsQ w b g n R) (hb:w'.heap[b]? =w.heap[b]?) (hg:w'.heap[g]? =w.heap[g]?):IsQ w' b g n R:=by
 obtain⟨hn,F,L,m,c,A,B,V,T,hr,hi⟩:=h
 exact⟨hn,F,L,m,c,A,B,V,T,hr.kept hb hg,hi⟩
theorem IsQ.blocks {w:World} {b g n:Nat} {R:List (Nat×Nat)} (h:IsQ w b g n R):b<w.heap.size∧g<w.heap.size∧b≠g:=by
 obtain⟨hn,F,L,m,c,A,B,V,T,hr,hi⟩:=h
 exact⟨hr.lt_b,hr.lt_g,hr.bg⟩
theorem IsQ.len_le {w:World} {b g n:Nat} {R:List (Nat×Nat)} (h:IsQ w b g n R):R.length≤n∧n≤1024:=by
 obtain⟨hn,F,L,m,c,A,B,V,T,hr,hi⟩:=h
 have:=nodup_le n (R.map (·.1)) hi.ids (fun x hx=>by obtain⟨it,a,rfl⟩:=List.mem_map.1 hx;exact(hi.rng it a).1)
 grind
theorem upd_cast (m:Nat→Nat) (k x:Nat):upd (fun i=>(m i:Int)) k (x:Int)=fun i=>((upd m k x i:Nat):Int):=by
 grind[upd]
theorem tie_any (w:World) (b g n:Nat) (R:List (Nat×Nat)) (id lv:Nat) (h:IsQ w b g n R) (hi:id<n) (hlv:lv<256) (hid: ∀it∈R,it.1≠id):
  vCa 240 #[vPt b,vU8 lv,vI6 ((id+1:Nat):Int)] w fun e w'=>e=vRt #[]∧IsQ w' b g n (R++[(id,lv)])∧Only b g w w':=by
 have hlen:=h.len_le
 obtain⟨hn,F,L,m,c,A,B,V,T,hr,hv⟩:=h
 have hc:=hv.cnt
 by_cases h0:L lv=0
 ·have he:=(hv.last_zero lv hlv).1 h0
  refine(tie_first hr lv (id+1) hlv (by omega) hn (by omega) h0).mono ?_
  rintro e w' ⟨he',hrep,honly⟩
  refine⟨he',⟨hn,_,_,upd m (lv/64) (m (lv/64)|||2^(lv%64)),_,_,_,_,_,?_,inv_push_first hv hi hlv hid he⟩,honly⟩
  rw[←upd_cast,←orBit_nat _ _ (hv.mlt _ (by omega))]
  exact hrep
 ·have he:QL R lv≠[]:=fun e=>h0 ((hv.last_zero lv hlv).2 e)
  have hlm:L lv∈QL R lv:=by grind[Bq.Inv.tl]
  obtain⟨q1,_,_,q4⟩:=hv.spot_le hlm
  refine(tie_more hr lv (id+1) (L lv) hlv (by omega) hn (by omega) rfl q4 q1 (fun e=>push_notin hid lv (e▸hlm))).mono ?_
  rintro e w' ⟨he',hrep,honly⟩
  exact⟨he',⟨hn,_,_,m,_,_,_,_,_,hrep,inv_push_more hv hi hlv hid he⟩,honly⟩
theorem untie_any (w:World) (b g n:Nat) (R1 R2:List (Nat×Nat)) (id lv:Nat) (h:IsQ w b g n (R1++(id,lv)::R2)):
  vCa 223 #[vPt b,vI6 ((id+1:Nat):Int)] w fun e w'=>e=vRt #[]∧IsQ w' b g n (R1++R2)∧Only b g w w':=by
 have hlen:=h.len_le
 obtain⟨hn,F,L,m,c',A,B,V,T,hr,hv⟩:=h
 obtain⟨c,rfl⟩: ∃c,c'=c+1:=⟨c'-1,by have:=hv.cnt;grind⟩
 have hc:=hv.cnt
 have hcc:c≤1024:=by omega
 have hlv:=(hv.rng (id,lv) (by simp)).2
 have hid:=(hv.rng (id,lv) (by simp)).1
 have hV:=hv.lev (id,lv) (by simp)
 have hq:QL (R1++(id,lv)::R2) lv=QL R1 lv++(id+1)::QL R2 lv:=by rw[QL_append,QL_cons,if_pos rfl]
 have hch:=hv.ch lv hlv
 rw[hq] at hch
 obtain⟨hA,hB,_⟩:=chain_mid A B (id+1) (QL R2 lv) (QL R1 lv) 0 hch
 have hnd:=QL_nodup hv.ids lv
 rw[hq,List.nodup_append,List.nodup_cons] at hnd
 have hin1: ∀s∈QL R1 lv,s≤n∧1≤s∧s≠id+1:=fun s hs=>by
  obtain⟨a,_,_,d⟩:=hv.spot_le (show s∈QL (R1++(id,lv)::R2) lv by grind)
  grind
 have hin2: ∀s∈QL R2 lv,s≤n∧1≤s∧s≠id+1:=fun s hs=>by
  obtain⟨a,_,_,d⟩:=hv.spot_le (show s∈QL (R1++(id,lv)::R2) lv by grind)
  grind
 have hFl:F lv≠0:=fun e=>by
  have:=(hv.first_zero lv hlv).1 e
  simp_all
 by_cases e1:QL R1 lv=[]
 ·by_cases e2:QL R2 lv=[]
  ·-- it stands alone
   rw[e1] at hA
   rw[e2] at hB
   refine(untie_only hr (id+1) lv (by omega) hlv hn hcc hA hB hV).mono ?_
   rintro e w' ⟨he',hrep,honly⟩
   refine⟨he',⟨hn,_,_,upd m (lv/64) (m (lv/64)&&&(18446744073709551615-2^(lv%64))),_,_,_,_,_,?_,inv_cut hv (upd F lv 0) (upd L lv 0) _ (upd A (id+1) 0) (upd B (id+1) 0) ?_ ?_ ?_ ?_ ?_ ?_⟩,honly⟩
   ·rw[←upd_cast,←andBit_nat _ _ (hv.mlt _ (by omega))];exact hrep
   ·grind[upd]
   ·grind[upd]
   ·grind[upd]
   ·grind[upd]
   ·intro k hk
    by_cases q:k=lv
    ·subst q;rw[if_pos rfl,upd_same,and_bit _ _ _ (by omega) (by omega),e1,e2];simp
    ·rw[if_neg q]
     by_cases q2:k/64=lv/64
     ·rw[q2,upd_same,and_bit _ _ _ (by omega) (by omega)]
      grind
     grind[upd]
   ·intro i hi'
    by_cases q:i=lv/64
    ·subst q;rw[upd_same];exact and_lt _ _ (hv.mlt _ hi')
    ·rw[upd_other _ _ _ _ q];exact hv.mlt i hi'
  ·-- the first one
   rw[e1] at hA
   obtain⟨y1,y2,y3⟩:=hin2 _ (headD_mem _ e2)
   refine(untie_head hr (id+1) lv (by omega) hlv hn hcc ((QL R2 lv).headD 0) hA hB hV y1 y2 y3).mono ?_
   rintro e w' ⟨he',hrep,honly⟩
   refine⟨he',⟨hn,_,_,m,_,_,_,_,_,hrep,inv_cut hv _ _ _ _ _ ?_ ?_ ?_ ?_ ?_ hv.mlt⟩,honly⟩
   ·grind[upd]
   ·grind
   ·grind[upd]
   ·grind[upd]
   ·intro k hk
    by_cases q:k=lv
    ·subst q
     rw[if_pos rfl,hv.bit k hk,hq]
     grind
    grind
 ·by_cases e2:QL R2 lv=[]
  ·-- the last one
   rw[e2] at hB
   obtain⟨x1,x2,x3⟩:=hin1 _ (lastD_mem _ 0 e1)
   refine(untie_last hr (id+1) lv (by omega) hlv hn hcc ((QL R1 lv).getLastD 0) (F lv) hA hB hV rfl (by omega) x1 x2 x3).mono ?_
   rintro e w' ⟨he',hrep,honly⟩
   refine⟨he',⟨hn,_,_,m,_,_,_,_,_,hrep,inv_cut hv _ _ _ _ _ ?_ ?_ ?_ ?_ ?_ hv.mlt⟩,honly⟩
   ·grind
   ·grind[upd]
   ·grind[upd]
   ·grind[upd]
   ·intro k hk
    by_cases q:k=lv
    ·subst q
     rw[if_pos rfl,hv.bit k hk,hq]
     grind
    grind
  ·-- one between two others
   obtain⟨x1,x2,x3⟩:=hin1 _ (lastD_mem _ 0 e1)
   obtain⟨y1,y2,y3⟩:=hin2 _ (headD_mem _ e2)
   refine(untie_mid hr (id+1) lv (by omega) hlv hn hcc ((QL R1 lv).getLastD 0) ((QL R2 lv).headD 0) (F lv) hA hB hV rfl (by omega) x1 x2 x3 y1 y2 y3).mono ?_
   rintro e w' ⟨he',hrep,honly⟩
   refine⟨he',⟨hn,_,_,m,_,_,_,_,_,hrep,inv_cut hv _ _ _ _ _ ?_ ?_ ?_ ?_ ?_ hv.mlt⟩,honly⟩
   ·grind
   ·grind
   ·grind[upd]
   ·grind[upd]
   ·intro k hk
    by_cases q:k=lv
    ·subst q
     rw[if_pos rfl,hv.bit k hk,hq]
     cases hx:QL R1 k with
     |nil=>grind
     |cons x xs=>simp
    grind
end Go.Proofs.YtnmhcgpnhlhcgaaGreatDoor.Bq
namespace Go.Proofs.YtnmhcgpnhlhcgaaGreatDoor.Bq
open Go.RowKit Go.Lib
def linkZero:Value:= .agg #[vI6 0,vI6 0,vU8 0,.bool false]
def linkCells (n:Nat):Array Value:=madeCells linkZero.cells ((n+1)*4)
def zeroCells:Array Value:=Array.replicate 512 (vI6 0)++(Array.replicate 4 (vU6 0)++ #[.slice none 0 0,vI6 0])
def queueCells (g n:Nat):Array Value:=zeroCells.setIfInBounds 516 (.slice (some (vA0 g)) (n+1) (n+1))
theorem zero_size:zeroCells.size=518:=by rfl
theorem link_at (n k:Nat) (h:k<(n+1)*4):(linkCells n)[k]? =some ((#[Value.int .i64 0,vI6 0,vU8 0,.bool false]:Array Value)[k%4]!):=by
 unfold linkCells madeCells linkZero
 simp[Value.cells,h]
theorem queue_lo (g n i:Nat) (h:i<512):(queueCells g n)[i]? =some (vI6 0):=by
 unfold queueCells
 rw[Array.getElem?_setIfInBounds_ne (by omega)]
 grind[Bq.zeroCells,Array.getElem?_append_left]
theorem queue_mid (g n i:Nat) (h:i<4):(queueCells g n)[512+i]? =some (vU6 0):=by
 unfold queueCells
 rw[Array.getElem?_setIfInBounds_ne (by omega)]
 unfold zeroCells
 rw[Array.getElem?_append_right (by simp)]
 grind
theorem infoLink:(Tryz.prog.info? 333).map (fun i=>(i.zero,i.size,i.bytes))=some (some linkZero,4,24):=by rfl
theorem zeroQ (w:World):(zeroValue 274).run Tryz.prog w= .ok (.agg zeroCells) w:=by rfl
theorem new_rep (w:World) (n:Nat):
  Rep ((w.alloc (.cells (linkCells n) 333)).alloc (.cells (queueCells w.heap.size n) 274)) (w.heap.size+1) w.heap.size n (fun _=>0) (fun _=>0) (fun _=>((0:Nat):Int)) 0 (fun _=>0) (fun _=>0) (fun _=>0) (fun _=>false):=by
 have hb: ∀i,((w.alloc (.cells (linkCells n) 333)).alloc (.cells (queueCells w.heap.size n) 274)).cell? (vAt (w.heap.size+1) i)=(queueCells w.heap.size n)[i]? :=by
  simp
 have hg: ∀i,((w.alloc (.cells (linkCells n) 333)).alloc (.cells (queueCells w.heap.size n) 274)).cell? (vAt w.heap.size i)=(linkCells n)[i]? :=by
  simp
 have fb: ∀i,((w.alloc (.cells (linkCells n) 333)).alloc (.cells (queueCells w.heap.size n) 274)).frozen? (vAt (w.heap.size+1) i)=false:=by
  simp
 have fg: ∀i,((w.alloc (.cells (linkCells n) 333)).alloc (.cells (queueCells w.heap.size n) 274)).frozen? (vAt w.heap.size i)=false:=by
  simp
 refine⟨by omega,fun i hi=> ?_,fun i hi=> ?_,fun i hi=> ?_,?_,?_,fun s hs=> ?_,fun s hs=> ?_,fun s hs=> ?_,fun s hs=> ?_,fb,fg⟩
 ·grind[Bq.queue_lo]
 ·grind[Bq.queue_lo]
 ·grind[Bq.queue_mid]
 ·exact⟨n+1,by rw[hb];rfl⟩
 ·rw[hb];rfl
 ·grind[Bq.link_at]
 ·grind[Bq.link_at]
 ·grind[Bq.link_at]
 grind[Bq.link_at]
theorem new_inv (n:Nat):Inv n (fun _=>0) (fun _=>0) (fun _=>0) 0 (fun _=>0) (fun _=>0) (fun _=>0) (fun _=>false) [] where
 ids:=by simp
 rng:=by simp
 there:=by simp
 lev:=by simp
 nolev:=by simp
 ch:=fun _ _=>trivial
 hd:=fun _ _=>rfl
 tl:=fun _ _=>rfl
 bit:=fun _ _=>by simp[QL]
 mlt:=fun _ _=>by decide
 cnt:=rfl
theorem new_ok (n:Nat) (w:World) (h1:1≤n) (h2:n≤1024):
  vCa 114 #[vI6 n] w fun e w'=>e= .returned (vPt (w.heap.size+1))∧IsQ w' (w.heap.size+1) w.heap.size n []∧vBw w w':=by
 obtain⟨i0,hi,hz0,hz1,hz2⟩:=info_parts infoLink
 have hmk: ∀w,(Instr.makeSlice 270 (vI6 ((n:Int)+1)) (vI6 ((n:Int)+1))).run Tryz.prog w= .ok (.slice (some (vA0 w.heap.size)) (n+1) (n+1)) (w.alloc (.cells (linkCells n) 333)):=by
  intro w
  have:=run_make w 270 333 i0 linkZero (by simp) hi hz0 .i64 .i64 ((n:Int)+1) ((n:Int)+1) (by omega) (by omega) (by grind) (by omega)
  rw[hz1,show((n:Int)+1).toNat=n+1 by omega] at this
  exact this
 have hzq:=zeroQ
 have hzs:=zero_size
 have hr:=new_rep w n
 have HR:=veil hr
 clear hr hi hz0 hz1 hz2
 refine ge ?_
 go_wp2
 go_ret
 refine⟨rfl,⟨h2,_,_,fun _=>0,_,_,_,_,_,HR.out,new_inv n⟩,?_⟩
 exact bzA.alloc (by simp) _
theorem bl_nat (x:Nat) (h:x<18446744073709551616) (h0:x≠0):2^(Lib.bitLen x-1)≤x∧x<2^Lib.bitLen x∧1≤Lib.bitLen x:=by
 exact bl_log 64 x h (by omega) h0
theorem bit_set (x k:Nat) (h:x<18446744073709551616) (hb:x.testBit k=true):x≠0∧k<Lib.bitLen x:=by
 have h0:x≠0:=by grind
 refine⟨h0,?_⟩
 apply Classical.byContradiction
 intro hn
 have h1:=(bl_nat x h h0).2.1
 grind[Nat.lt_of_lt_of_le,Nat.pow_le_pow_right,Nat.testBit_lt_two_pow]
theorem bit_top (x:Nat) (h:x<18446744073709551616) (h0:x≠0):x.testBit (Lib.bitLen x-1)=true:=by
 obtain⟨a,b,c⟩:=bl_nat x h h0
 rw[Nat.testBit_eq_decide_div_mod_eq]
 have e2:Lib.bitLen x=Lib.bitLen x-1+1:=by omega
 rw[e2,Nat.pow_succ] at b
 generalize Lib.bitLen x-1=q at*
 have hq:=(by omega)
 have d:x/2^q=1:=by apply Nat.div_eq_of_lt_le<;>omega
 grind
theorem w64_nat (x:Nat) (h:x<18446744073709551616):W64 (x:Int):=⟨by omega,by omega⟩
theorem hi_bits (m:Nat→Nat) (mlt: ∀i,i<4→m i<18446744073709551616):
  (∀k,k<256→(m (k/64)).testBit (k%64)=true→(k:Int)≤hiBit (m 0) (m 1) (m 2) (m 3))∧
  (∀k:Nat,k<256→hiBit (m 0) (m 1) (m 2) (m 3)=(k:Int)→(m (k/64)).testBit (k%64)=true):=by
 have b0:=w64_nat _ (mlt 0 (by omega));have b1:=w64_nat _ (mlt 1 (by omega));have b2:=w64_nat _ (mlt 2 (by omega));have b3:=w64_nat _ (mlt 3 (by omega))
 have hge:=hi_ge (m 0) (m 1) (m 2) (m 3) b0 b1 b2 b3
 simp only[Int.toNat_natCast] at hge
 constructor
 ·intro k hk hb
  have hj:k/64=0∨k/64=1∨k/64=2∨k/64=3:=by omega
  obtain⟨n0,nl⟩:=bit_set _ _ (by grind) hb
  grind
 ·intro k hk hH
  have hat:=hi_at (m 0) (m 1) (m 2) (m 3) b0 b1 b2 b3 ((k%64:Nat):Int) (by omega) (by omega)
  simp only[Int.toNat_natCast] at hat
  have hj:k/64=0∨k/64=1∨k/64=2∨k/64=3:=by omega
  rcases hj with e|e|e|e<;>rw[e]
  ·obtain⟨n0,nl⟩:=hat.1 (by omega)
   rw[show k%64=Lib.bitLen (m 0)-1 by omega];grind[Bq.bit_top]
  ·obtain⟨n0,nl⟩:=hat.2.1 (by omega)
   rw[show k%64=Lib.bitLen (m 1)-1 by omega];grind[Bq.bit_top]
  ·obtain⟨n0,nl⟩:=hat.2.2.1 (by omega)
   rw[show k%64=Lib.bitLen (m 2)-1 by omega];grind[Bq.bit_top]
  ·obtain⟨n0,nl⟩:=hat.2.2.2 (by omega)
   rw[show k%64=Lib.bitLen (m 3)-1 by omega];grind[Bq.bit_top]
def Best (R:List (Nat×Nat)) (lv:Nat):Prop:=lv<256∧QL R lv≠[]∧ ∀k,k<256→lv<k→QL R k=[]
theorem hi_best {n:Nat} {F L m:Nat→Nat} {c:Nat} {A B V:Nat→Nat} {T:Nat→Bool} {R:List (Nat×Nat)} (h:Inv n F L m c A B V T R) {lv:Nat} (hb:Best R lv):hiBit (m 0) (m 1) (m 2) (m 3)=(lv:Int):=by
 obtain⟨h1,h2,h3⟩:=hb
 obtain⟨g1,g2⟩:=hi_bits m h.mlt
 have hbd:=hi_bd (m 0) (m 1) (m 2) (m 3) mK mK mK mK
 have hle:=g1 lv h1 (by rw[h.bit lv h1];grind)
 apply Classical.byContradiction
 intro hne
 obtain⟨k,hk⟩: ∃k:Nat,hiBit (m 0) (m 1) (m 2) (m 3)=(k:Int):=⟨(hiBit (m 0) (m 1) (m 2) (m 3)).toNat,by omega⟩
 have hb:=g2 k (by omega) hk
 rw[h.bit k (by omega),h3 k (by omega) (by omega)] at hb
 grind
theorem hi_nobody {n:Nat} {F L m:Nat→Nat} {c:Nat} {A B V:Nat→Nat} {T:Nat→Bool} (h:Inv n F L m c A B V T []):hiBit (m 0) (m 1) (m 2) (m 3)= -1:=by
 obtain⟨g1,g2⟩:=hi_bits m h.mlt
 have hbd:=hi_bd (m 0) (m 1) (m 2) (m 3) mK mK mK mK
 apply Classical.byContradiction
 intro hne
 obtain⟨k,hk⟩: ∃k:Nat,hiBit (m 0) (m 1) (m 2) (m 3)=(k:Int):=⟨(hiBit (m 0) (m 1) (m 2) (m 3)).toNat,by omega⟩
 have hb:=g2 k (by omega) hk
 rw[h.bit k (by omega)] at hb
 simp[QL] at hb
section
variable {w:World} {b g n:Nat} {F L:Nat→Nat} {M:Nat→Int} {c:Nat} {A B V:Nat→Nat} {T:Nat→Bool}
theorem mask_rep (h:Rep w b g n F L M c A B V T):
  vCa 234 #[vPt b] w fun e w'=>e= .returned (.agg #[vU6 (M 0),vU6 (M 1),vU6 (M 2),vU6 (M 3)])∧ ∃d:Array Value,w'=w.alloc (.cells d 272):=by
 have e0:=h.msk 0 (by omega)
 have e1:=h.msk 1 (by omega)
 have e2:=h.msk 2 (by omega)
 have e3:=h.msk 3 (by omega)
 have zb:=h.lt_b
 have yb: ¬b=w.heap.size:=by omega
 clear h
 refine ge ?_
 go_wp2
 simp[bodyPost,results,Tryz.results234,go_sem]
 grind
theorem len_rep (h:Rep w b g n F L M c A B V T):
  vS 187 #[vPt b] w (vI6 c):=by
 have e0:=h.cn
 clear h
 refine ge ?_
 go_wp2
 go_ret
 simp
theorem may_yes (h:Rep w b g n F L M c A B V T) (id:Nat) (hn:n≤1024) (hid:id<n):
  vS 221 #[vPt b,vI6 id] w (.bool true):=by
 obtain⟨cp,e0⟩:=h.sl
 clear h
 refine ge ?_
 go_wp2
 go_ret
 simp
end
theorem IsQ.below {w w':World} {b g n:Nat} {R:List (Nat×Nat)} (h:IsQ w b g n R) (hw:vBw w w'):IsQ w' b g n R:=
 h.kept (hw.block b h.blocks.1) (hw.block g h.blocks.2.1)
theorem push_ok (w:World) (b g n:Nat) (R:List (Nat×Nat)) (id lv:Nat) (h:IsQ w b g n R) (hi:id<n) (hlv:lv<256) (hid: ∀it∈R,it.1≠id):
  vCa 226 #[vPt b,vU8 lv,vI6 id] w fun e w'=>e= .returned (vI6 0)∧IsQ w' b g n (R++[(id,lv)])∧Only b g w w':=by
 have HT:=veil (tie_any w b g n R id lv h hi hlv hid)
 obtain⟨hn,F,L,m,c,A,B,V,T,hr,hv⟩:=h
 have HM:=veil (may_yes hr id hn hi)
 have ht:T (id+1)=false:=by
  cases hq:T (id+1) with
  |false=>rfl
  |true=>
   obtain⟨it,a,e⟩:=(hv.there (id+1) (by omega)).1 hq
   grind
 obtain⟨cp,e0⟩:=hr.sl
 have e1:=hr.lt (id+1) (by omega)
 rw[ht] at e1
 clear hr hv ht
 refine ge ?_
 go_wp2_with (first
  |(go_at_call 221;refine(HM.out).mono ?_;rintro e w' ⟨rfl,hw⟩;subst hw)
  |(go_at_call 240;refine(HT.out).mono ?_;rintro e w' ⟨rfl,hq,ho⟩;have HQ:=veil (hq);have HO:=veil (ho);clear hq ho))
 go_ret
 exact⟨rfl,HQ.out,HO.out⟩
theorem top_some (w:World) (b g n:Nat) (R:List (Nat×Nat)) (id lv:Nat) (rest:List Nat) (h:IsQ w b g n R) (hb:Best R lv) (hq:QL R lv=(id+1)::rest):
  vQ 218 #[vPt b] w (.tuple #[vU8 lv,vI6 id,.bool true]):=by
 obtain⟨hn,F,L,m,c,A,B,V,T,hr,hv⟩:=h
 have hhi:=hi_best hv hb
 have hlv:=hb.1
 have HM:=veil (mask_rep hr)
 have w0:=w64_nat _ (hv.mlt 0 (by omega));have w1:=w64_nat _ (hv.mlt 1 (by omega));have w2:=w64_nat _ (hv.mlt 2 (by omega));have w3:=w64_nat _ (hv.mlt 3 (by omega))
 have hH: ∀w,vCa 233 #[.agg #[vU6 (m 0),vU6 (m 1),vU6 (m 2),vU6 (m 3)]] w fun e w'=>e= .returned (vI6 lv)∧ ∃c:Array Value,w'=w.alloc (.cells c 272):=by
  grind[Bq.highest_any]
 have HH:=veil (hH)
 have e0:=hr.fst lv hlv
 rw[hv.hd lv hlv,hq] at e0
 have e0':w.cell? (vAt b lv)=some (vI6 ((id:Int)+1)):=e0
 have hidn:=(hv.spot_le (show id+1∈QL R lv by grind)).1
 have zb:=hr.lt_b
 have yb: ¬b=w.heap.size:=by omega
 have yb1: ¬b=w.heap.size+1:=by omega
 clear hr hv hhi hH e0 w0 w1 w2 w3 hb hq
 refine ge ?_
 go_wp2_with (first
  |(go_at_call 234;refine(HM.out).mono ?_;rintro e w' ⟨rfl,d,hw⟩;subst hw)
  |(go_at_call 233;refine(HH.out _).mono ?_;rintro e w' ⟨rfl,d2,hw⟩;subst hw))
 go_quiet (fail)
 go_wp2
 go_ret3
 exact⟨rfl,below_drewN (bzA.alloc (by simp) _) _⟩
theorem IsQ.rng {w:World} {b g n:Nat} {R:List (Nat×Nat)} (h:IsQ w b g n R): ∀it∈R,it.1<n∧it.2<256:=by
 obtain⟨hn,F,L,m,c,A,B,V,T,hr,hv⟩:=h
 exact hv.rng
theorem mask_none (w:World) (b g n:Nat) (h:IsQ w b g n []):
  ∃m0 m1 m2 m3:Int,(vCa 234 #[vPt b] w fun e w'=>e= .returned (.agg #[vU6 m0,vU6 m1,vU6 m2,vU6 m3])∧ ∃d:Array Value,w'=w.alloc (.cells d 272))∧
   ∀w,vCa 233 #[.agg #[vU6 m0,vU6 m1,vU6 m2,vU6 m3]] w fun e w'=>e= .returned (vI6 (-1))∧ ∃d:Array Value,w'=w.alloc (.cells d 272):=by
 obtain⟨hn,F,L,m,c,A,B,V,T,hr,hv⟩:=h
 have hhi:=hi_nobody hv
 refine⟨m 0,m 1,m 2,m 3,mask_rep hr,fun w=> ?_⟩
 have:=highest_any (m 0) (m 1) (m 2) (m 3) w (w64_nat _ (hv.mlt 0 (by omega))) (w64_nat _ (hv.mlt 1 (by omega))) (w64_nat _ (hv.mlt 2 (by omega))) (w64_nat _ (hv.mlt 3 (by omega)))
 rw[hhi] at this
 exact this
theorem len_is (w:World) (b g n:Nat) (R:List (Nat×Nat)) (h:IsQ w b g n R):
  vS 187 #[vPt b] w (vI6 (R.length:Int)):=by
 obtain⟨hn,F,L,m,c,A,B,V,T,hr,hv⟩:=h
 grind[Bq.Inv.cnt,Bq.len_rep]
end Go.Proofs.YtnmhcgpnhlhcgaaGreatDoor.Bq
namespace Go.Proofs.YtnmhcgpnhlhcgaaGreatDoor.Bq
open Go.RowKit
section
variable {w:World} {b g n:Nat} {R R1 R2:List (Nat×Nat)} {id lv:Nat}
theorem IsQ.sl (h:IsQ w b g n R): ∃cp,w.cell? (vAt b 516)=some (.slice (some (vA0 g)) (n+1) cp):=by
 obtain⟨hn,F,L,m,c,A,B,V,T,hr,hv⟩:=h
 exact hr.sl
theorem may_no (h:IsQ w b g n R) (id:Int) (hi:id<0∨(n:Int)≤id):
  vS 221 #[vPt b,vI6 id] w (.bool false):=by
 obtain⟨cp,e0⟩:=h.sl
 have hn:=h.len_le.2
 clear h
 by_cases h0:id<0
 ·refine ge ?_
  go_wp2
  go_ret
  simp
 ·have h1: ¬id<(n:Int):=by omega
  have h2:(n:Int)≤id:=by omega
  clear hi
  refine ge ?_
  go_wp2
  go_ret
  simp
theorem may_ok (h:IsQ w b g n R) (hi:id<n):
  vS 221 #[vPt b,vI6 id] w (.bool true):=by
 obtain⟨hn,F,L,m,c,A,B,V,T,hr,hv⟩:=h
 exact may_yes hr id hn hi
theorem remove_range (h:IsQ w b g n R) (id:Int) (hi:id<0∨(n:Int)≤id):
  vS 202 #[vPt b,vI6 id] w (vI6 2):=by
 have HM:=veil (may_no h id hi)
 clear h hi
 refine ge ?_
 go_wp2_with (go_at_call 221;refine(HM.out).mono ?_;rintro e w' ⟨rfl,hw⟩;subst hw)
 go_ret
 simp
theorem IsQ.link (h:IsQ w b g n R) (hi:id<n): ∃(lv:Nat) (t:Bool),w.cell? (vAt g ((id+1)*4+2))=some (vU8 lv)∧w.cell? (vAt g ((id+1)*4+3))=some (.bool t)∧(t=true→(id,lv)∈R)∧(t=false→lv=0∧ ∀it∈R,it.1≠id)∧
  ∃x y:Nat,w.cell? (vAt g ((id+1)*4))=some (vI6 x)∧w.cell? (vAt g ((id+1)*4+1))=some (vI6 y):=by
 obtain⟨hn,F,L,m,c,A,B,V,T,hr,hv⟩:=h
 refine⟨V (id+1),T (id+1),hr.lv (id+1) (by omega),hr.lt (id+1) (by omega),fun ht=> ?_,fun ht=> ?_,A (id+1),B (id+1),hr.la (id+1) (by omega),hr.lb (id+1) (by omega)⟩
 ·obtain⟨it,a,e⟩:=(hv.there (id+1) (by omega)).1 ht
  have:=hv.lev it a
  grind
 ·refine⟨hv.nolev (id+1) (by omega) ht,fun it hit e=> ?_⟩
  have:=(hv.there (id+1) (by omega)).2 (by grind)
  grind
theorem push_known (h:IsQ w b g n (R1++(id,lv)::R2)) (l0:Nat):
  vS 226 #[vPt b,vU8 l0,vI6 id] w (vI6 5):=by
 have hi:=(h.rng (id,lv) (by simp)).1
 have HM:=veil (may_ok h hi)
 obtain⟨l,t,_,e1,_,ht,_⟩:=h.link hi
 obtain⟨cp,e0⟩:=h.sl
 have hn:=h.len_le.2
 have tt:t=true:=by
  cases t with
  |true=>rfl
  |false=>exact absurd rfl ((ht rfl).2 (id,lv) (by simp))
 subst tt
 clear h ht
 refine ge ?_
 go_wp2_with (go_at_call 221;refine(HM.out).mono ?_;rintro e w' ⟨rfl,hw⟩;subst hw)
 go_ret
 simp
theorem remove_none (h:IsQ w b g n R) (hi:id<n) (hid: ∀it∈R,it.1≠id):
  vS 202 #[vPt b,vI6 id] w (vI6 6):=by
 have HM:=veil (may_ok h hi)
 obtain⟨l,t,_,e1,ht,_,_⟩:=h.link hi
 obtain⟨cp,e0⟩:=h.sl
 have hn:=h.len_le.2
 have tt:t=false:=by
  grind
 subst tt
 clear h ht hid
 refine ge ?_
 go_wp2_with (go_at_call 221;refine(HM.out).mono ?_;rintro e w' ⟨rfl,hw⟩;subst hw)
 go_ret
 simp
theorem remove_some (h:IsQ w b g n (R1++(id,lv)::R2)):
  vCa 202 #[vPt b,vI6 id] w fun e w'=>e= .returned (vI6 0)∧IsQ w' b g n (R1++R2)∧Only b g w w':=by
 have hi:=(h.rng (id,lv) (by simp)).1
 have HM:=veil (may_ok h hi)
 have HU:=veil (untie_any w b g n R1 R2 id lv h)
 obtain⟨l,t,_,e1,_,ht,_⟩:=h.link hi
 obtain⟨cp,e0⟩:=h.sl
 have hn:=h.len_le.2
 have tt:t=true:=by
  cases t with
  |true=>rfl
  |false=>exact absurd rfl ((ht rfl).2 (id,lv) (by simp))
 subst tt
 clear h ht
 refine ge ?_
 go_wp2_with (first
  |(go_at_call 221;refine(HM.out).mono ?_;rintro e w' ⟨rfl,hw⟩;replace hw:=hw.symm;subst hw)
  |(go_at_call 223;refine(HU.out).mono ?_;rintro e w' ⟨rfl,hq,ho⟩;have HQ:=veil hq;have HO:=veil ho;clear hq ho))
 go_ret
 exact⟨rfl,HQ.out,HO.out⟩
theorem level_none (h:IsQ w b g n R) (hi:id<n) (hid: ∀it∈R,it.1≠id):
  vQ 200 #[vPt b,vI6 id] w (.tuple #[vU8 0,.bool false]):=by
 have HM:=veil (may_ok h hi)
 obtain⟨l,t,e2,e1,ht,ht',x,y,e3,e4⟩:=h.link hi
 obtain⟨cp,e0⟩:=h.sl
 have hn:=h.len_le.2
 have tt:t=false:=by
  grind
 subst tt
 obtain⟨rfl,_⟩:=ht' rfl
 clear h ht hid ht'
 refine ge ?_
 go_wp2_with (go_at_call 221;refine(HM.out).mono ?_;rintro e w' ⟨rfl,hw⟩;replace hw:=hw.symm;subst hw)
 go_quiet (fail)
 go_wp2
 go_ret2
 exact⟨rfl,below_drewN bzA _⟩
theorem level_some (h:IsQ w b g n (R1++(id,lv)::R2)):
  vQ 200 #[vPt b,vI6 id] w (.tuple #[vU8 lv,.bool true]):=by
 have hi:=(h.rng (id,lv) (by simp)).1
 have HM:=veil (may_ok h hi)
 obtain⟨l,t,e2,e1,ht,ht',x,y,e3,e4⟩:=h.link hi
 obtain⟨cp,e0⟩:=h.sl
 have hn:=h.len_le.2
 have tt:t=true:=by
  cases t with
  |true=>rfl
  |false=>exact absurd rfl ((ht' rfl).2 (id,lv) (by simp))
 subst tt
 have hl:l=lv:=by
  have hm:=ht rfl
  obtain⟨hn,F,L,m,c,A,B,V,T,hr,hv⟩:=h
  have a1:=hv.lev _ hm
  have a2:=hv.lev (id,lv) (by simp)
  grind
 subst hl
 clear h ht ht'
 refine ge ?_
 go_wp2_with (go_at_call 221;refine(HM.out).mono ?_;rintro e w' ⟨rfl,hw⟩;replace hw:=hw.symm;subst hw)
 go_quiet (fail)
 go_wp2
 go_ret2
 exact⟨rfl,below_drewN bzA _⟩
end
end Go.Proofs.YtnmhcgpnhlhcgaaGreatDoor.Bq
namespace Go.Proofs.YtnmhcgpnhlhcgaaGreatDoor.Bq
open Go.RowKit Go.Lib
theorem IsQ.ids {w:World} {b g n:Nat} {R:List (Nat×Nat)} (h:IsQ w b g n R):(R.map (·.1)).Nodup:=by
 obtain⟨hn,F,L,m,c,A,B,V,T,hr,hv⟩:=h
 exact hv.ids
theorem top_none (w:World) (b g n:Nat) (h:IsQ w b g n []):
  vQ 218 #[vPt b] w (.tuple #[vU8 0,vI6 0,.bool false]):=by
 obtain⟨m0,m1,m2,m3,hM,hH⟩:=mask_none w b g n h
 have HM:=veil hM
 have HH:=veil hH
 clear hM hH h
 refine ge ?_
 go_wp2_with (first
  |(go_at_call 234;refine(HM.out).mono ?_;rintro e w' ⟨rfl,d,hw⟩;subst hw)
  |(go_at_call 233;refine(HH.out _).mono ?_;rintro e w' ⟨rfl,d2,hw⟩;subst hw))
 go_ret3
 exact⟨rfl,bzA.alloc (by simp) _⟩
end Go.Proofs.YtnmhcgpnhlhcgaaGreatDoor.Bq
namespace Go.Proofs.YtnmhcgpnhlhcgaaGreatDoor.Ke
open Go.ChangeShapes Go.WideShapes Go.ChangeAt Go.RowKit Go.Deep
section
variable {H:Type} {enc:TypeId×Value→H} {w:World} {base:Nat} {spare:Nat→Bool} {held:Bool}
end
end Go.Proofs.YtnmhcgpnhlhcgaaGreatDoor.Ke
namespace Go.Proofs.YtnmhcgpnhlhcgaaGreatDoor.Ke
open Go.ChangeShapes Go.WideShapes Go.ChangeAt Go.RowKit
structure K where
 e:Bool
 d:Int
 l:Int
deriving DecidableEq
def K.ok (k:K):Prop:=(0≤k.d∧k.d<18446744073709551616)∧0≤k.l∧k.l<256
def up (a b:K):Bool:=if a.e !=b.e then a.e else if a.e then decide (a.d<b.d) else decide (b.l<a.l)
def fixK (l:Int):K:=⟨false,0,l⟩
def deadK (d:Int):K:=⟨true,d,0⟩
def rightK (k:K):Bool:=if k.e then k.l==0 else k.d==0
def maxK (a b:K):K:=if up b a then b else a
def same (a b:K):Bool:=a.e==b.e&&a.d==b.d&&a.l==b.l
@[go_sem] theorem buildFix (b : Int) (w : World) : (Instr.build 120 #[(2, vU8 b)]).run Tryz.prog w = .ok (.agg #[.bool false, vU6 0, vU8 b]) w := run_build w 120 _ _ (by rfl)
@[go_sem] theorem buildDead (e : Bool) (d : Int) (w : World) : (Instr.build 120 #[(0, .bool e), (1, vU6 d)]).run Tryz.prog w = .ok (.agg #[.bool e, vU6 d, vU8 0]) w := run_build w 120 _ _ (by rfl)
theorem eqAgg (e e':Bool) (d d' l l':Int) (w:World):(Op.equalIn 10000 120 (.agg #[.bool e,vU6 d,vU8 l]) (.agg #[.bool e',vU6 d',vU8 l'])).run Tryz.prog w= .ok (e==e'&&d==d'&&l==l') w:=by
 have u3:=Tryz.underlying25
 have a3:=Tryz.isAgg25
 have z3:=Tryz.sizeOf25
 have u4:=Tryz.underlying4
 have a4:=Tryz.isAgg4
 have z4:=Tryz.sizeOf4
 have u5:=Tryz.underlying5
 have a5:=Tryz.isAgg5
 have z5:=Tryz.sizeOf5
 have hS:Tryz.prog.underlying 120=some (.struct (Tryz.prog.fieldsOf 120)):=by rfl
 rw[show(10000:Nat)=9999+1 from rfl,run_equalIn_agg w 9999 120 _ _ hS (by rfl)]
 simp only[Program.fieldsOf,Tryz.underlying120]
 go_simp
 grind
@[go_sem high] theorem eqK (a b : K) (w : World) : (Op.equal 120 (.agg #[.bool a.e, vU6 a.d, vU8 a.l]) (.agg #[.bool b.e, vU6 b.d, vU8 b.l])).run Tryz.prog w = .ok (same a b) w := eqAgg _ _ _ _ _ _ w
@[go_sem high] theorem eqB (a b : K) (w : World) : (binOp .eql 120 (.agg #[.bool a.e, vU6 a.d, vU8 a.l]) (.agg #[.bool b.e, vU6 b.d, vU8 b.l])).run Tryz.prog w = .ok (.bool (same a b)) w := by
 simp[binOp,go_sem]
theorem below2 (w:World) (c c':Array Value) (t t':TypeId):vBw w ((w.alloc (.cells c t)).alloc (.cells c' t')):=bzA.alloc (by simp) _
theorem fixed_ok (w:World) (l:Int):vQ 68 #[vU8 l] w (.agg #[.bool (fixK l).e,vU6 (fixK l).d,vU8 (fixK l).l]):=by
 refine ge ?_
 go_wp2
 simp[bodyPost,results,Tryz.results68,go_sem,fixK]
 exact bzA
theorem dead_ok (w:World) (d:Int):vQ 131 #[vU6 d] w (.agg #[.bool (deadK d).e,vU6 (deadK d).d,vU8 (deadK d).l]):=by
 refine ge ?_
 go_wp2
 simp[bodyPost,results,Tryz.results131,go_sem,deadK]
 exact bzA
theorem above_mk (w:World) (a b:K):vCa 119 #[.agg #[.bool a.e,vU6 a.d,vU8 a.l],.agg #[.bool b.e,vU6 b.d,vU8 b.l]] w fun e w'=>e= .returned (.bool (up a b))∧ ∃c1 c2,w'=(w.alloc (.cells c1 120)).alloc (.cells c2 120):=by
 unfold up
 refine ge ?_
 cases he:a.e<;>cases he':b.e<;>(go_wp2;go_ret;exact⟨by simp,_,_,rfl⟩)
theorem above_ok (w:World) (a b:K):vQ 119 #[.agg #[.bool a.e,vU6 a.d,vU8 a.l],.agg #[.bool b.e,vU6 b.d,vU8 b.l]] w (.bool (up a b)):=
 (above_mk w a b).mono fun e w' ⟨h,c1,c2,hw⟩=>⟨h,by grind[Ke.below2]⟩
def At (w:World) (b:Nat) (k:K):Prop:=w.cell? (vA0 b)=some (.bool k.e)∧w.cell? (vAt b 1)=some (vU6 k.d)∧w.cell? (vAt b 2)=some (vU8 k.l)
theorem At.below {w w':World} {b:Nat} {k:K} (h:At w b k) (hb:vBw w w'):At w' b k:=
 ⟨(hb.cell (World.block_lt_of_cell? w _ h.1)).trans h.1,(hb.cell (World.block_lt_of_cell? w _ h.2.1)).trans h.2.1,(hb.cell (World.block_lt_of_cell? w _ h.2.2)).trans h.2.2⟩
theorem keep1 {w0 w w':World} {b:Nat} {k:K} (h:w.cell? (vA0 b)=some (.bool k.e)∧w.cell? (vAt b 1)=some (vU6 k.d)∧w.cell? (vAt b 2)=some (vU8 k.l)∧vBw w0 w) (hb:vBw w w'):
  w'.cell? (vA0 b)=some (.bool k.e)∧w'.cell? (vAt b 1)=some (vU6 k.d)∧w'.cell? (vAt b 2)=some (vU8 k.l)∧vBw w0 w':=by
 obtain⟨h0,h1,h2,h3⟩:=h
 have:=At.below ⟨h0,h1,h2⟩ hb
 exact⟨this.1,this.2.1,this.2.2,h3.trans (hb.mono h3.size)⟩
theorem at_new (w:World) (k:K) (t:TypeId):At (w.alloc (.cells #[.bool k.e,vU6 k.d,vU8 k.l] t)) w.heap.size k:=by
 refine⟨?_,?_,?_⟩<;>(simp)
theorem start1 (w:World) (k:K) (t:TypeId):(w.alloc (.cells #[.bool k.e,vU6 k.d,vU8 k.l] t)).drew.cell? (vA0 w.heap.size)=some (.bool k.e)∧(w.alloc (.cells #[.bool k.e,vU6 k.d,vU8 k.l] t)).drew.cell? (vAt w.heap.size 1)=some (vU6 k.d)∧(w.alloc (.cells #[.bool k.e,vU6 k.d,vU8 k.l] t)).drew.cell? (vAt w.heap.size 2)=some (vU8 k.l)∧vBw w (w.alloc (.cells #[.bool k.e,vU6 k.d,vU8 k.l] t)).drew:=
 ⟨(by simp),(by simp),(by simp),bzA.drew⟩
theorem fin1 {w0 w:World} {p q r:Prop} (h:p∧q∧r∧vBw w0 w):vBw w0 w:=h.2.2.2
theorem same_eq (a b:K):same a b=decide (a=b):=by
 obtain⟨e,d,l⟩:=a
 obtain⟨e',d',l'⟩:=b
 unfold same
 grind
theorem right_yes (k:K) (hc:same k (fixK k.l)=true):rightK k=true:=by
 grind[Ke.rightK,Ke.same,Ke.fixK]
theorem right_no (k:K) (hc:same k (fixK k.l)=false):same k (deadK k.d)=rightK k:=by
 unfold rightK
 cases he:k.e<;>simp[same,fixK,deadK,he] at hc⊢
 exact hc
theorem right_ok (w : World) (k : K) : vQ 129 #[.agg #[.bool k.e, vU6 k.d, vU8 k.l]] w (.bool (rightK k)) := by
 have HF := veil fixed_ok
 have HD := veil dead_ok
 by_cases hc : same k (fixK k.l) = true
 ·have HR := veil (right_yes k hc)
  refine ge ?_
  go_wp2
  refine wp_region_held_drew (S := (fun w' => w'.cell? (vA0 w.heap.size) = some (.bool k.e) ∧ w'.cell? (vAt w.heap.size 1) = some (vU6 k.d) ∧ w'.cell? (vAt w.heap.size 2) = some (vU8 k.l) ∧ vBw w w')) (by rfl) ?_ (fun hHeld => ?_)
  ·exact start1 _ _ _
  refine st ?_
  repeat' first
   | refine dn ?_
   | refine tk ?_
   | refine rd ?_
   | exact opZ
   | refine opN ?_
   | refine opS ?_ ?_
   | (refine opY 3 (fun K hK => ?_)
      go_simp
      refine (HF.out _ _).mono ?_
      rintro e w1 ⟨rfl, hb⟩
      go_wp2_with fail
      refine hK.out _ _ ?_ (fun hHeld => ?_)
      ·exact keep1 (by omega) hb
      clear hK K
      try simp only [puX])
  refine ⟨?_⟩
  go_wp2
  go_ret
  exact ⟨by rw [HR.out]; rfl, fin1 (by assumption)⟩
 simp only [Bool.not_eq_true] at hc
 have HR := veil (right_no k hc)
 refine ge ?_
 go_wp2
 go_region_held3 (fun w' => w'.cell? (vA0 w.heap.size) = some (.bool k.e) ∧ w'.cell? (vAt w.heap.size 1) = some (vU6 k.d) ∧ w'.cell? (vAt w.heap.size 2) = some (vU8 k.l) ∧ vBw w w')
  (first | exact start1 _ _ _ | exact keep1 (by omega) hb)
  (first
   | (go_at_call 68; refine (HF.out _ _).mono ?_; rintro e w1 ⟨rfl, hb⟩)
   | (go_at_call 131; refine (HD.out _ _).mono ?_; rintro e w2 ⟨rfl, hb⟩))
 go_wp2
 go_ret
 exact ⟨by rw [HR.out]; rfl, fin1 (by assumption)⟩
end Go.Proofs.YtnmhcgpnhlhcgaaGreatDoor.Ke
namespace Go.Proofs.YtnmhcgpnhlhcgaaGreatDoor
abbrev vKy (k:Ke.K):Array Value:= #[.bool k.e,.int .u64 k.d,.int .u8 k.l]
abbrev En:=Nat×Ke.K
def put (x:En):List En→List En
 |[]=>[x]
 |y::M=>if Ke.up x.2 y.2 then x::y::M else y::put x M
def cut (id:Nat) (M:List En):List En:=M.filter (fun y=>y.1 !=id)
theorem put_skip (x:En): ∀(A B:List En),(∀y∈A,Ke.up x.2 y.2=false)→put x (A++B)=A++put x B
 |[],_,_=>rfl
 |y::A,B,h=>by
  have e:=h y (by simp)
  simp only[List.cons_append,put,e]
  rw[put_skip x A B (by grind)]
  rfl
theorem put_here (x:En): ∀(B:List En),(∀y∈B,Ke.up x.2 y.2=true)→put x B=x::B
 |[],_=>rfl
 |y::B,h=>by simp[put,h y (by simp)]
theorem cut_miss {M:List En} {id:Nat} (h: ∀y∈M,y.1≠id):cut id M=M:=by
 grind[cut,List.filter_eq_self]
theorem cut_head {y:En} {M:List En} (h:((y::M).map (·.1)).Nodup):cut y.1 (y::M)=M:=by
 rw[List.map_cons,List.nodup_cons] at h
 unfold cut
 rw[List.filter_cons_of_neg (by simp)]
 exact cut_miss (by grind)
theorem nd_uniq {M:List En} (h:(M.map (·.1)).Nodup) {a b:En} (ha:a∈M) (hb:b∈M) (e:a.1=b.1):a=b:=by
 induction M with
 |nil=>cases ha
 |cons y M ih=>
  grind
theorem mem_put {x y:En}: ∀{M:List En},y∈put x M↔y=x∨y∈M
 |[]=>by simp[put]
 |z::M=>by
  unfold put
  split
  ·simp
  ·rw[List.mem_cons,mem_put,List.mem_cons]
   grind
theorem len_put {x:En}: ∀{M:List En},(put x M).length=M.length+1
 |[]=>rfl
 |z::M=>by
  unfold put
  split
  ·simp
  ·simp[len_put]
theorem nd_put {x:En}: ∀{M:List En},(M.map (·.1)).Nodup→(∀y∈M,y.1≠x.1)→((put x M).map (·.1)).Nodup
 |[],_,_=>by simp[put]
 |z::M,h,hx=>by
  unfold put
  split
  ·grind
  ·rw[List.map_cons,List.nodup_cons] at h⊢
   refine⟨fun q=> ?_,nd_put h.2 (by grind)⟩
   obtain⟨y,hy,e⟩:=List.mem_map.1 q
   rcases mem_put.1 hy with rfl|hy
   ·grind
   grind
theorem nd_cut {M:List En} {id:Nat} (h:(M.map (·.1)).Nodup):((cut id M).map (·.1)).Nodup:=
 List.Nodup.sublist (List.Sublist.map _ List.filter_sublist) h
theorem mem_cut {M:List En} {id:Nat} {y:En}:y∈cut id M↔y∈M∧y.1≠id:=by simp[cut]
theorem len_cut {id:Nat} {k:Ke.K}: ∀{M:List En},(M.map (·.1)).Nodup→(id,k)∈M→(cut id M).length+1=M.length
 |[],_,h=>by cases h
 |y::M,hn,h=>by
  by_cases e:y.1=id
  ·rw[←e,cut_head hn];simp
  ·rw[List.map_cons,List.nodup_cons] at hn
   have:cut id (y::M)=y::cut id M:=by unfold cut;grind
   rw[this]
   have hm:(id,k)∈M:=by
    grind
   have:=len_cut hn.2 hm
   grind
def keyOf (M:List En) (id:Nat):Option Ke.K:=(M.find? (fun y=>y.1==id)).map (·.2)
theorem keyOf_some {M:List En} {id:Nat} {k:Ke.K} (h:(M.map (·.1)).Nodup):keyOf M id=some k↔(id,k)∈M:=by
 unfold keyOf
 constructor
 ·intro q
  cases hf:M.find? (fun y=>y.1==id) with
  |none=>grind
  |some y=>
   grind
 ·intro q
  cases hf:M.find? (fun y=>y.1==id) with
  |none=>
   grind
  |some y=>
   grind[nd_uniq]
theorem keyOf_none {M:List En} {id:Nat}:keyOf M id=none↔ ∀y∈M,y.1≠id:=by
 unfold keyOf
 simp
end Go.Proofs.YtnmhcgpnhlhcgaaGreatDoor
namespace Go.Proofs.YtnmhcgpnhlhcgaaGreatDoor.Ex
open Go.RowKit Go.Lib
def nxI (op arg pl:Int):Int:=if op=8 then arg else if op=9 then pl else pl+1
def lfI (op arg left:Int):Int:=if op=1 then arg else left
theorem has_yes (w:World) (a:Option Addr) (len cap:Nat) (hlen:len<9223372036854775808) (O R:Nat→Int) (hp:Prg w a len O R) (pl:Int) (hr:Rt len O R) (h0:0≤pl) (h1:pl<len):
  vQ 162 #[.slice a len cap,vI6 pl] w (.bool true):=by
 obtain⟨y,hy⟩:=hr
 have HC:=veil (check_known w a len cap hlen O R hp 0 y hy)
 clear hy hp
 refine ge ?_
 go_wp2_with (go_at_call 51;refine cH HC.out fun w1 HB=> ?_)
 go_ret
 exact⟨rfl,HB.out⟩
theorem has_no (w:World) (a:Option Addr) (len cap:Nat) (hlen:len<9223372036854775808) (O R:Nat→Int) (hp:Prg w a len O R) (pl:Int) (hn: ¬(Rt len O R∧0≤pl∧pl<len)):
  vQ 162 #[.slice a len cap,vI6 pl] w (.bool false):=by
 obtain⟨x,y,hxy⟩:=chk_total len O R
 have HC:=veil (check_known w a len cap hlen O R hp x y hxy)
 by_cases hx:x=0
 ·subst hx
  have hn': ¬(0≤pl∧pl<len):=fun q=>hn ⟨⟨y,hxy⟩,q⟩
  clear hn hxy hp
  by_cases h0:0≤pl
  ·have h1: ¬pl<(len:Int):=fun q=>hn' ⟨h0,q⟩
   have h1':=decide_eq_false h1
   clear hn'
   refine ge ?_
   go_wp2_with (go_at_call 51;refine cH HC.out fun w1 HB=> ?_)
   go_ret
   exact⟨rfl,HB.out⟩
  ·have h0':=decide_eq_false h0
   clear hn'
   refine ge ?_
   go_wp2_with (go_at_call 51;refine cH HC.out fun w1 HB=> ?_)
   go_ret
   exact⟨rfl,HB.out⟩
 ·have hx':(x==0)=false:=by grind
  clear hxy hn hp
  refine ge ?_
  go_wp2_with (go_at_call 51;refine cH HC.out fun w1 HB=> ?_)
  go_ret
  exact⟨rfl,HB.out⟩
theorem behind_ok (w:World) (op arg pl left:Int) (h0:0≤pl) (h1:pl<9223372036854775807):
  vQ 163 #[.agg #[vI6 op,vI6 arg],.agg #[vI6 pl,vI6 left]] w (.agg #[vI6 (nxI op arg pl),vI6 (lfI op arg left)]):=by
 by_cases h8:op=8
 ·subst h8
  refine ge ?_
  go_wp2
  refine bodyPost_ret (v:= .agg #[vI6 arg,vI6 left]) ?_ rfl ⟨?_,?_⟩
  ·simp[results,Tryz.f163,go_sem]
  ·rfl
  ·exact(bzA.alloc (by simp) _).alloc (by simp;omega) _
 by_cases h9:op=9
 ·subst h9
  refine ge ?_
  go_wp2
  refine bodyPost_ret (v:= .agg #[vI6 pl,vI6 left]) ?_ rfl ⟨?_,?_⟩
  ·simp[results,Tryz.f163,go_sem]
  ·rfl
  ·exact(bzA.alloc (by simp) _).alloc (by simp;omega) _
 by_cases hc:op=1
 ·subst hc
  refine ge ?_
  go_wp2
  refine bodyPost_ret (v:= .agg #[vI6 (pl+1),vI6 arg]) ?_ rfl ⟨?_,?_⟩
  ·simp[results,Tryz.f163,go_sem]
  ·rfl
  ·exact(bzA.alloc (by simp) _).alloc (by simp;omega) _
 ·have b8:(op==8)=false:=by grind
  have b9:(op==9)=false:=by grind
  have b1:(op==1)=false:=by grind
  refine ge ?_
  go_wp2
  refine bodyPost_ret (v:= .agg #[vI6 (pl+1),vI6 left]) ?_ rfl ⟨?_,?_⟩
  ·simp[results,Tryz.f163,go_sem]
  ·simp[nxI,lfI,h8,h9,hc]
  ·exact(bzA.alloc (by simp) _).alloc (by simp;omega) _
theorem step_busy (w:World) (a:Option Addr) (len cap:Nat) (pl left:Int) (h:0<left):
  vQ 125 #[.slice a len cap,.agg #[vI6 pl,vI6 left]] w (.tuple #[.agg #[vI6 0,vI6 0],.agg #[vI6 pl,vI6 left],.bool true]):=by
 refine ge ?_
 go_wp2
 go_region_held3 (fun w'=>w'.cell? (vA0 w.heap.size)=some (vI6 pl)∧w'.cell? (vAt w.heap.size 1)=some (vI6 left))
  (first|go_keep)
  (fail)
 go_wp2
 refine bodyPost_ret (v:= .tuple #[.agg #[vI6 0,vI6 0],.agg #[vI6 pl,vI6 left],.bool true]) ?_ rfl ⟨rfl,?_⟩
 ·simp[results,Tryz.f125,go_sem]
 ·exact((bzA.alloc (by simp) _).alloc (by simp;omega) _).drew
theorem tick_ok (w:World) (pl left:Int) (hw:left<9223372036854775808):
  vQ 89 #[.agg #[vI6 pl,vI6 left]] w (.agg #[vI6 pl,vI6 (if 0<left then left-1 else left)]):=by
 by_cases h:0<left
 ·rw[if_pos h]
  refine ge ?_
  go_wp2
  refine bodyPost_ret (v:= .agg #[vI6 pl,vI6 (left-1)]) ?_ rfl ⟨rfl,?_⟩
  ·simp[results,Tryz.f89,go_sem]
  ·exact bzA.alloc (by simp) _
 ·rw[if_neg h]
  refine ge ?_
  go_wp2
  refine bodyPost_ret (v:= .agg #[vI6 pl,vI6 left]) ?_ rfl ⟨rfl,?_⟩
  ·simp[results,Tryz.f89,go_sem]
  ·exact bzA.alloc (by simp) _
theorem three_cells (w w1:World) (x0 x1 y0 y1 z0 z1:Value) (t1 t2 t3:Nat)
  (hb:Below (((w.alloc (.cells #[x0,x1] t1)).alloc (.cells #[y0,y1] t2)).alloc (.cells #[z0,z1] t3)).heap.size (((w.alloc (.cells #[x0,x1] t1)).alloc (.cells #[y0,y1] t2)).alloc (.cells #[z0,z1] t3)) w1):
  w1.heap[w.heap.size]? =some (.cells #[x0,x1] t1 (0,0))∧w1.heap[w.heap.size+1]? =some (.cells #[y0,y1] t2 (0,0))∧w1.heap[w.heap.size+1+1]? =some (.cells #[z0,z1] t3 (0,0))∧vBw w w1:=by
 refine⟨?_,?_,?_,?_⟩
 ·rw[hb.block _ (by simp;omega),Below.heap_alloc _ _ _ (by simp;omega),Below.heap_alloc _ _ _ (by simp)]
  exact(MapKept.heap_alloc w _).1
 ·rw[hb.block _ (by simp),Below.heap_alloc _ _ _ (by simp)]
  have:=(MapKept.heap_alloc (w.alloc (.cells #[x0,x1] t1)) (.cells #[y0,y1] t2)).1
  simp_all
 ·rw[hb.block _ (by simp)]
  have:=(MapKept.heap_alloc ((w.alloc (.cells #[x0,x1] t1)).alloc (.cells #[y0,y1] t2)) (.cells #[z0,z1] t3)).1
  simp_all
 ·exact(bzA.alloc (by simp) _).alloc (by simp;omega) _|>.trans (hb.mono (by simp;omega))
theorem two_cells {w:World} {b:Nat} {x0 x1:Value} {t:Nat} (h:w.heap[b]? =some (.cells #[x0,x1] t (0,0))):
  w.cell? (vA0 b)=some x0∧w.cell? (vAt b 1)=some x1∧w.frozen? (vA0 b)=false∧w.frozen? (vAt b 1)=false:=by
 refine⟨?_,?_,?_,?_⟩
 ·unfold World.cell?;grind
 ·unfold World.cell?;grind
 ·unfold World.frozen?;grind
 ·unfold World.frozen?;grind
theorem step_no (w:World) (a:Option Addr) (len cap:Nat) (hlen:len<9223372036854775808) (O R:Nat→Int) (hp:Prg w a len O R) (pl left:Int) (hl: ¬0<left) (hn: ¬(Rt len O R∧0≤pl∧pl<len)):
  vQ 125 #[.slice a len cap,.agg #[vI6 pl,vI6 left]] w (.tuple #[.agg #[vI6 9,vI6 0],.agg #[vI6 pl,vI6 left],.bool false]):=by
 have HH:=veil (fun w1 (hb:vBw w w1)=>has_no w1 a len cap hlen O R (hp.below hb) pl hn)
 clear hp hn
 refine ge ?_
 go_wp2_with (go_at_call 162;refine(HH.out _ ((bzA.alloc (by simp) _).alloc (by simp;omega) _)).mono ?_;rintro e w1 ⟨rfl,hb⟩;obtain⟨b1,b2,b3,hb2⟩:=three_cells _ _ _ _ _ _ _ _ _ _ _ hb;obtain⟨c0,c1,f0,f1⟩:=two_cells b1;obtain⟨c2,c3,f2,f3⟩:=two_cells b2;obtain⟨c4,c5,f4,f5⟩:=two_cells b3;have HB:=veil hb2;clear hb hb2 HH b1 b2 b3)
 go_region
 go_wp2
 refine bodyPost_ret (v:= .tuple #[.agg #[vI6 9,vI6 0],.agg #[vI6 pl,vI6 left],.bool false]) ?_ rfl ⟨rfl,?_⟩
 ·simp[results,Tryz.f125,go_sem,c2,c3,c4,c5]
 ·exact((((HB.out.setCell (p:=(vA0 (w.heap.size+1))) (by simp) _).setCell (p:=(vAt (w.heap.size+1) 1)) (by simp) _).setCell (p:=(vA0 (w.heap.size+1+1))) (by grind) _).setCell (p:=(vAt (w.heap.size+1+1) 1)) (by grind) _).drew
def Six (W:World) (b:Nat) (x0 x1 y0 y1 z0 z1:Value):Prop:=
 (W.cell? (vA0 b)=some x0∧W.cell? (vAt b 1)=some x1∧W.cell? (vA0 (b+1))=some y0∧W.cell? (vAt (b+1) 1)=some y1∧W.cell? (vA0 (b+1+1))=some z0∧W.cell? (vAt (b+1+1) 1)=some z1)∧
 W.frozen? (vA0 (b+1))=false∧W.frozen? (vAt (b+1) 1)=false∧W.frozen? (vA0 (b+1+1))=false∧W.frozen? (vAt (b+1+1) 1)=false
theorem Six.below {W W':World} {b:Nat} {x0 x1 y0 y1 z0 z1:Value} (h:Six W b x0 x1 y0 y1 z0 z1) (hb:vBw W W'):Six W' b x0 x1 y0 y1 z0 z1:=by
 obtain⟨⟨h1,h2,h3,h4,h5,h6⟩,g1,g2,g3,g4⟩:=h
 have l: ∀{p:Addr} {v:Value},W.cell? p=some v→W'.cell? p=some v:=fun {p v} h=>(hb.cell (World.block_lt_of_cell? W p h)).trans h
 have g: ∀{p:Addr} {v:Value},W.cell? p=some v→W.frozen? p=false→W'.frozen? p=false:=fun {p v} h h'=>(hb.frozen (World.block_lt_of_cell? W p h)).trans h'
 exact⟨⟨l h1,l h2,l h3,l h4,l h5,l h6⟩,g h3 g1,g h4 g2,g h5 g3,g h6 g4⟩
theorem Rt.at {len:Nat} {O R:Nat→Int} (h:Rt len O R):len≤64:=by
 obtain⟨y,hy⟩:=h
 exact hy.zero.2.1
theorem step_yes (w:World) (a:Option Addr) (len cap:Nat) (O R:Nat→Int) (hp:Prg w a len O R) (j:Nat) (left:Int) (hl: ¬0<left) (hr:Rt len O R) (hj:j<len):
  Calls Tryz.prog 125 #[.slice a len cap,.agg #[.int .i64 (j:Int),.int .i64 left]] w fun e w'=>e= .returned (.tuple #[.agg #[.int .i64 (O j),.int .i64 (R j)],.agg #[.int .i64 (nxI (O j) (R j) j),.int .i64 (lfI (O j) (R j) left)],.bool false])∧Below w.heap.size w w':=by
 have h64:=hr.at
 have HH:=veil (fun w1 (hb:Below w.heap.size w w1)=>has_yes w1 a len cap (by omega) O R (hp.below hb) j hr (by omega) (by omega))
 have HV:=veil (fun w1=>behind_ok w1 (O j) (R j) j left (by omega) (by omega))
 have HP:Hid (∀w1,Below w.heap.size w w1→ ∃lb off,a=some ⟨lb,off,none⟩∧lb<w.heap.size∧w1.cell? ⟨lb,off+j*2,none⟩=some (.int .i64 (O j))∧w1.cell? ⟨lb,off+j*2+1,none⟩=some (.int .i64 (R j))):=by
  intro w1 hb
  rcases hp with h0|⟨lb,off,rfl,hlb,hc⟩
  ·omega
  ·exact⟨lb,off,rfl,hlb,(hb.cell (p:=⟨lb,off+j*2,none⟩) hlb).trans (hc j hj).1,(hb.cell (p:=⟨lb,off+j*2+1,none⟩) hlb).trans (hc j hj).2⟩
 have hj':(j:Int)<(len:Int):=by omega
 clear hp hr
 refine ge ?_
 go_wp2_with (go_at_call 162;refine(HH.out _ ((bzA.alloc (by simp) _).alloc (by simp;omega) _)).mono ?_;rintro e w1 ⟨rfl,hb⟩;obtain⟨b1,b2,b3,hb2⟩:=three_cells _ _ _ _ _ _ _ _ _ _ _ hb;obtain⟨c0,c1,f0,f1⟩:=two_cells b1;obtain⟨c2,c3,f2,f3⟩:=two_cells b2;obtain⟨c4,c5,f4,f5⟩:=two_cells b3;obtain⟨lb,off,rfl,hlb,p0,p1⟩:=HP.out _ hb2;have q0: ¬lb=w.heap.size+1:=(by omega);have HB:=veil hb2;clear hb hb2 HH HP b1 b2 b3)
 have H6:Six ((w1.setCell ⟨w.heap.size+1,0,none⟩ (.int .i64 (O j))).setCell ⟨w.heap.size+1,1,none⟩ (.int .i64 (R j))) w.heap.size (.int .i64 (j:Int)) (.int .i64 left) (.int .i64 (O j)) (.int .i64 (R j)) (.int .i64 0) (.int .i64 0):=by
  refine⟨⟨?_,?_,?_,?_,?_,?_⟩,?_,?_,?_,?_⟩<;>simp[go_sem,c0,c1,c2,c3,c4,c5,f2,f3,f4,f5]
 have HB1:Hid (Below w.heap.size w ((w1.setCell ⟨w.heap.size+1,0,none⟩ (.int .i64 (O j))).setCell ⟨w.heap.size+1,1,none⟩ (.int .i64 (R j)))):=(HB.out.setCell (p:=⟨w.heap.size+1,0,none⟩) (by simp) _).setCell (p:=⟨w.heap.size+1,1,none⟩) (by simp) _
 clear c0 c1 c2 c3 c4 c5 f0 f1 f2 f3 f4 f5 p0 p1 HB
 generalize (w1.setCell ⟨w.heap.size+1,0,none⟩ (.int .i64 (O j))).setCell ⟨w.heap.size+1,1,none⟩ (.int .i64 (R j))=W at H6 HB1⊢
 have H7:=veil H6
 obtain⟨⟨c0,c1,c2,c3,c4,c5⟩,f2,f3,f4,f5⟩:=H6
 go_region_held3 (fun w'=>w'.cell? ⟨w.heap.size,0,none⟩=some (.int .i64 (j:Int))∧w'.cell? ⟨w.heap.size,1,none⟩=some (.int .i64 left)∧w'.cell? ⟨w.heap.size+1,0,none⟩=some (.int .i64 (O j))∧w'.cell? ⟨w.heap.size+1,1,none⟩=some (.int .i64 (R j)))
  (first|with_reducible exact(by grind)|with_reducible exact(by grind)|(refine⟨?_,?_,?_,?_⟩<;>simp[go_sem,d0,d1,d2,d3];done)|go_keep)
  (first|(go_at_call 163;refine(HV.out _).mono ?_;rintro e w2 ⟨rfl,hb0⟩;have hb:Below W.heap.size W w2:=((Below.refl _ W).drew).trans hb0;clear hb0;obtain⟨⟨d0,d1,d2,d3,d4,d5⟩,g2,g3,g4,g5⟩:=H7.out.below hb;have HB2:=veil (HB1.out.trans (hb.mono HB1.out.size));clear hb))
 go_wp2
 refine bodyPost_ret (v:= .tuple #[.agg #[.int .i64 (O j),.int .i64 (R j)],.agg #[.int .i64 (nxI (O j) (R j) j),.int .i64 (lfI (O j) (R j) left)],.bool false]) ?_ rfl ⟨rfl,?_⟩
 ·simp[results,Tryz.f125,go_sem,d2,d3,d4,d5]
 grind[RowKit.Hid.out,RowKit.Below.setCell]
def inP (r:Bool) (len:Nat) (p:Int):Bool:=r&&decide (0≤p∧p<(len:Int))
def stO (r:Bool) (len:Nat) (O:Nat→Int) (p:Int):Int:=if inP r len p then O p.toNat else 9
def stR (r:Bool) (len:Nat) (R:Nat→Int) (p:Int):Int:=if inP r len p then R p.toNat else 0
def stN (r:Bool) (len:Nat) (O R:Nat→Int) (p:Int):Int:=if inP r len p then nxI (O p.toNat) (R p.toNat) p else p
def stL (r:Bool) (len:Nat) (O R:Nat→Int) (p left:Int):Int:=if inP r len p then lfI (O p.toNat) (R p.toNat) left else left
theorem inP_iff {r:Bool} {len:Nat} {O R:Nat→Int} (hr:r=true↔Rt len O R) (p:Int):inP r len p=true↔(Rt len O R∧0≤p∧p<len):=by
 simp[inP,hr]
theorem step_any (w:World) (a:Option Addr) (len cap:Nat) (hlen:len<9223372036854775808) (O R:Nat→Int) (hp:Prg w a len O R) (r:Bool) (hr:r=true↔Rt len O R) (p left:Int) (hl: ¬0<left):
  vQ 125 #[.slice a len cap,.agg #[vI6 p,vI6 left]] w (.tuple #[.agg #[vI6 (stO r len O p),vI6 (stR r len R p)],.agg #[vI6 (stN r len O R p),vI6 (stL r len O R p left)],.bool false]):=by
 by_cases h:inP r len p=true
 ·obtain⟨h1,h2,h3⟩:=(inP_iff hr p).1 h
  simp only[stO,stR,stN,stL,h,if_true]
  obtain⟨j,rfl⟩: ∃j:Nat,p=j:=⟨p.toNat,by omega⟩
  grind[Ex.step_yes]
 ·have h':inP r len p=false:=by grind
  simp only[stO,stR,stN,stL,h',Bool.false_eq_true,if_false]
  exact step_no w a len cap hlen O R hp p left hl (fun q=>h ((inP_iff hr p).2 q))
end Go.Proofs.YtnmhcgpnhlhcgaaGreatDoor.Ex
namespace Go.Proofs.YtnmhcgpnhlhcgaaGreatDoor.Ex
open Go.RowKit Go.Lib Go.Deep Go.ChangeShapes Go.WideShapes Go.ChangeAt
@[go_sem] theorem field_at (x y : Value) (w : World) : (Instr.field 128 (.agg #[x, y]) 0).run Tryz.prog w = .ok x w := by rfl
@[go_sem] theorem field_left (x y : Value) (w : World) : (Instr.field 128 (.agg #[x, y]) 1).run Tryz.prog w = .ok y w := by rfl
end Go.Proofs.YtnmhcgpnhlhcgaaGreatDoor.Ex
namespace Go.Proofs.YtnmhcgpnhlhcgaaGreatDoor.Ag
open Go.RowKit
def levN (b s n p:Int):Int:=if p=0 then b else if subN n s/p<255-b then b+subN n s/p else 255
def Tm (a:Int):Prop:=0≤a∧a≤18446744073709551615
def Lv (a:Int):Prop:=0≤a∧a≤255
theorem quo_bd (x p:Int) (h0:0≤x) (h1:x≤18446744073709551615) (hp:0≤p):0≤x/p∧x/p≤18446744073709551615:=
 ⟨Int.ediv_nonneg h0 hp,Int.le_trans (Int.ediv_le_self p h0) h1⟩
theorem level_ok (b s n p:Int) (w:World) (hb:Lv b) (hs:Tm s) (hn:Tm n) (hp:Tm p):
  vS 161 #[vU8 b,vU6 s,vU6 n,vU6 p] w (vU8 (levN b s n p)):=by
 obtain⟨b0,b1⟩:=hb
 obtain⟨s0,s1⟩:=hs
 obtain⟨n0,n1⟩:=hn
 obtain⟨p0,p1⟩:=hp
 have HS:=veil (fun w=>sub_any n s w n0 n1 s0 s1)
 have hx:=subN_bd n s n0 n1 s0
 unfold levN
 generalize subN n s=x at HS hx⊢
 obtain⟨x0,x1⟩:=hx
 obtain⟨q0,q1⟩:=quo_bd x p x0 x1 p0
 by_cases hp:p=0
 ·rw[if_pos hp]
  refine ge ?_
  go_wp2
  go_ret
  simp
 ·rw[if_neg hp]
  by_cases hq:x/p<255-b
  ·rw[if_pos hq]
   refine ge ?_
   go_wp2_with (go_at_call 189;refine cS (HS.out _) ?_)
   go_ret
   simp
  ·rw[if_neg hq]
   refine ge ?_
   go_wp2_with (go_at_call 189;refine cS (HS.out _) ?_)
   all_goals
    go_ret
    refine⟨?_,rfl⟩
    simp
    omega
end Go.Proofs.YtnmhcgpnhlhcgaaGreatDoor.Ag

/- YtdbailcdlngemaaGreatDoorGa: of the texts O1 O2 O3 O4 O5 O6 O7 O8 O9 O10 O11 O12 O13 O14 O15 O16 O17 O18 O19 O20 O21 O22 O23 O24 O25 Mq Mk L1 J1 J2 J3 J4 J5 J6 J7 J8 W1 A1 A2 A3 A4 A5 A6 what is wanted. -/
import Derived.Test.YtdbailcdlngemaaGreatDoorG0
import Derived.Test.YtdbailcdlngemaaGreatDoorRows
import Derived.WalkKit
import Derived.Below
import Derived.WalkSpells
import Derived.WalkLawsBesides
import Derived.StillTactics
import Derived.RegionTactic
import Derived.RowKit3
import Derived.Laws.MakeOwn
import Derived.OwnWalk
import Derived.Deep.QuietTactic
import Derived.BigQuiet
import Derived.Laws.OwnMore
import Derived.Maps.AppendAt
import Derived.Deep.AppendLies
import Derived.Deep.RegionHeld3
import Derived.Deep.DrawnRows
import Derived.Lib.SmallJoins
import Derived.OneCell
import Derived.Laws.BytesArg
import Derived.ProofKit
import Derived.Deep.Slices
import Derived.Deep.Strs
import Derived.ChangeOld
import Derived.OpenShut
import Derived.Lib.EndianBits
import Derived.Defers
import Derived.Recover
import Derived.Laws.Pointers
import Derived.Laws.FloatArith
import Derived.Laws.MathBits
import Derived.Lib.BitFns
import Derived.Laws.Bits64b
import Derived.Laws.StructEq
import Derived.Laws.BitsAllLaws
import Derived.Test.YtdbailcdlngemaaGreatDoorChecked
import Derived.Laws.IdiomArrays
import Derived.WideShapes
import Derived.Carry
set_option maxHeartbeats 16000000
set_option maxRecDepth 100000
set_option linter.unusedVariables false
set_option linter.unusedSimpArgs false
namespace Go.Proofs.YtdbailcdlngemaaGreatDoor.Ex
open Go.RowKit Go.Lib
theorem aa {p:Prop} (h:p):Hid p:=h
def pP (k a b:Int) (n:Nat):MapEntry:={key:= .int .i64 k,val:= .agg #[.int .i64 a,.int .i64 b],born:=n}
def bj (n:Int):List MapEntry:=
 [pP 1 1 65536 0,pP 2 0 31 1,pP 3 0 31 2,pP 4 0 15 3,pP 5 1 65536 4,pP 6 0 0 5,pP 7 0 255 6,pP 8 0 (n-1) 7,pP 9 0 0 8]
theorem o8 (k:Int): ∀(l:List MapEntry) (i:Nat),(∀e∈l,∃x,e.key= .int .i64 x∧x≠k)→Instr.findNow (.int .i64) (.int .i64 k) l i=some none
 |[],_,_=>rfl
 |e::l,i,h=>by
  obtain⟨x,h1,h2⟩:=h e (by simp)
  have hne:(k==x)=false:=by simp;exact fun q=>h2 q.symm
  simp[Instr.findNow,h1,Instr.sameNow,hne,o8 k l (i+1) (fun e' he=>h e' (by simp[he]))]
theorem eX (w:World) (l:List MapEntry) (c:Nat) (k:Int) (v:Value) (h: ∀e∈l,∃x,e.key= .int .i64 x∧x≠k):
  (Instr.mapUpdate 174 (.map (some w.heap.size)) (.int .i64 k) v).run Tryz.prog (w.alloc (.map l.toArray c))= .ok () (w.alloc (.map (l++[MapEntry.mk (.int .i64 k) v c]).toArray (c+1))):=by
 have hf:=o8 k l 0 h
 have hg:(w.alloc (.map l.toArray c)).heap[w.heap.size]? =some (.map l.toArray c):=heap_alloc_new w _
 have h1:=MapKept.run_checkKey (P:=Tryz.prog) (w:=w.alloc (.map l.toArray c)) (k:= .int .i64 k) Tryz.underlying46 (by simp[MapKept.IsKey]) false 9999
 have h2:=MapKept.run_findKey (P:=Tryz.prog) (w:=w.alloc (.map l.toArray c)) Tryz.underlying46 hf
 have h3:Array.setIfInBounds (w.heap.push (.map l.toArray c)) w.heap.size (.map (l++[MapEntry.mk (.int .i64 k) v c]).toArray (c+1))=w.heap.push (.map (l++[MapEntry.mk (.int .i64 k) v c]).toArray (c+1)):=by
  apply Array.ext
  ·simp
  ·intro i h4 h5
   simp at h4 h5
   by_cases hi:i=w.heap.size
   ·subst hi;simp
   ·rw[Array.getElem_setIfInBounds_ne (by simpa using h4) (by omega),Array.getElem_push_lt (by omega),Array.getElem_push_lt (by omega)]
 simp[Instr.mapUpdate,run_underlying Tryz.underlying174,MapKept.run_getObj_map hg,h1,h2,MapKept.run_setObj_map _ hg,Result.andThen]
 show({w with heap:=Array.setIfInBounds (w.heap.push (.map l.toArray c)) w.heap.size (.map (l++[MapEntry.mk (.int .i64 k) v c]).toArray (c+1))}:World)=_
 rw[h3]
 rfl
def dn (w:World) (n:Int) (k:Nat):World:=w.alloc (.map ((bj n).take k).toArray k)
theorem H3 (w:World) (n:Int):(Instr.mapUpdate 174 (.map (some w.heap.size)) (.int .i64 1) (.agg #[.int .i64 1,.int .i64 65536])).run Tryz.prog (dn w n 0)= .ok () (dn w n 1):=
 eX w ((bj n).take 0) 0 1 _ (by simp[bj,pP])
theorem Hg (w:World) (n:Int):(Instr.mapUpdate 174 (.map (some w.heap.size)) (.int .i64 2) (.agg #[.int .i64 0,.int .i64 31])).run Tryz.prog (dn w n 1)= .ok () (dn w n 2):=
 eX w ((bj n).take 1) 1 2 _ (by simp[bj,pP])
theorem FA (w:World) (n:Int):(Instr.mapUpdate 174 (.map (some w.heap.size)) (.int .i64 3) (.agg #[.int .i64 0,.int .i64 31])).run Tryz.prog (dn w n 2)= .ok () (dn w n 3):=
 eX w ((bj n).take 2) 2 3 _ (by simp[bj,pP])
theorem H9 (w:World) (n:Int):(Instr.mapUpdate 174 (.map (some w.heap.size)) (.int .i64 4) (.agg #[.int .i64 0,.int .i64 15])).run Tryz.prog (dn w n 3)= .ok () (dn w n 4):=
 eX w ((bj n).take 3) 3 4 _ (by simp[bj,pP])
theorem G6 (w:World) (n:Int):(Instr.mapUpdate 174 (.map (some w.heap.size)) (.int .i64 5) (.agg #[.int .i64 1,.int .i64 65536])).run Tryz.prog (dn w n 4)= .ok () (dn w n 5):=
 eX w ((bj n).take 4) 4 5 _ (by simp[bj,pP])
theorem Hc (w:World) (n:Int):(Instr.mapUpdate 174 (.map (some w.heap.size)) (.int .i64 6) (.agg #[.int .i64 0,.int .i64 0])).run Tryz.prog (dn w n 5)= .ok () (dn w n 6):=
 eX w ((bj n).take 5) 5 6 _ (by simp[bj,pP])
theorem G7 (w:World) (n:Int):(Instr.mapUpdate 174 (.map (some w.heap.size)) (.int .i64 7) (.agg #[.int .i64 0,.int .i64 255])).run Tryz.prog (dn w n 6)= .ok () (dn w n 7):=
 eX w ((bj n).take 6) 6 7 _ (by simp[bj,pP])
theorem Hn (w:World) (n:Int):(Instr.mapUpdate 174 (.map (some w.heap.size)) (.int .i64 8) (.agg #[.int .i64 0,.int .i64 (n-1)])).run Tryz.prog (dn w n 7)= .ok () (dn w n 8):=
 eX w ((bj n).take 7) 7 8 _ (by simp[bj,pP])
theorem H8 (w:World) (n:Int):(Instr.mapUpdate 174 (.map (some w.heap.size)) (.int .i64 9) (.agg #[.int .i64 0,.int .i64 0])).run Tryz.prog (dn w n 8)= .ok () (dn w n 9):=
 eX w ((bj n).take 8) 8 9 _ (by simp[bj,pP])
theorem yz (w:World) (n:Int) (h1:1≤n) (h2:n≤64):
  Calls Tryz.prog 63 #[.int .i64 n] w fun e w'=>e= .returned (.map (some w.heap.size))∧w'=dn w n 9:=by
 have hm:(Instr.makeMap 174 none).run Tryz.prog w= .ok (.map (some w.heap.size)) (dn w n 0):=rfl
 have p1:=H3 w n
 have p2:=Hg w n
 have p3:=FA w n
 have p4:=H9 w n
 have p5:=G6 w n
 have p6:=Hc w n
 have p7:=G7 w n
 have p8:=Hn w n
 have p9:=H8 w n
 go_enter Tryz.func63,Tryz.ntmps63
 go_wp2
 go_ret
 exact⟨rfl,rfl⟩
def lo (op:Int):Int:=if op=1∨op=5 then 1 else 0
def hi (n op:Int):Int:=if op=1∨op=5 then 65536 else if op=2∨op=3 then 31 else if op=4 then 15 else if op=7 then 255 else if op=8 then n-1 else 0
def known (op:Int):Bool:=decide (1≤op∧op≤9)
theorem xJ (w:World) (b:Nat) (n op:Int) (hb:w.heap[b]? =some (.map (bj n).toArray 9)):
  (Instr.lookup 174 (.map (some b)) (.int .i64 op) true).run Tryz.prog w= .ok (.tuple #[.agg #[.int .i64 (lo op),.int .i64 (hi n op)],.bool (known op)]) w:=by
 have h1:=MapKept.run_checkKey (P:=Tryz.prog) (w:=w) (k:= .int .i64 op) Tryz.underlying46 (by simp[MapKept.IsKey]) false 9999
 have hz:(zeroValue 177).run Tryz.prog w= .ok (.agg #[.int .i64 0,.int .i64 0]) w:=by kernel_rfl
 have he:(bj n).toArray.isEmpty=false:=rfl
 have key: ∃a,Instr.findNow (.int .i64) (.int .i64 op) (bj n) 0=some a∧((a=none∧known op=false∧lo op=0∧hi n op=0)∨ ∃i,a=some (i,.agg #[.int .i64 (lo op),.int .i64 (hi n op)])∧known op=true):=by
  by_cases hk:1≤op∧op≤9
  ·have:op=1∨op=2∨op=3∨op=4∨op=5∨op=6∨op=7∨op=8∨op=9:=by omega
   rcases this with rfl|rfl|rfl|rfl|rfl|rfl|rfl|rfl|rfl<;>exact⟨_,rfl,.inr ⟨_,rfl,rfl⟩⟩
  ·refine⟨none,o8 _ _ _ (fun e he=> ?_),.inl ⟨rfl,by simp[known];omega,by simp[lo];omega,?_⟩⟩
   ·simp only[bj,List.mem_cons,List.not_mem_nil,or_false] at he
    rcases he with rfl|rfl|rfl|rfl|rfl|rfl|rfl|rfl|rfl<;>exact⟨_,rfl,by omega⟩
   ·unfold hi
    rw[if_neg (by omega),if_neg (by omega),if_neg (by omega),if_neg (by omega),if_neg (by omega)]
 obtain⟨a,ha,hk⟩:=key
 have h2:=MapKept.run_findKey (P:=Tryz.prog) (w:=w) Tryz.underlying46 ha
 rcases hk with ⟨rfl,q1,q2,q3⟩|⟨i,rfl,q1⟩
 ·simp[Instr.lookup,run_underlying Tryz.underlying174,MapKept.run_getObj_map hb,he,h1,h2,hz,q1,q2,q3,Result.andThen]
 ·simp[Instr.lookup,run_underlying Tryz.underlying174,MapKept.run_getObj_map hb,he,h1,h2,q1,Result.andThen]
theorem Aj (a b x:Int) (w:World):Calls Tryz.prog 64 #[.agg #[.int .i64 a,.int .i64 b],.int .i64 x] w fun e w'=>e= .returned (.bool (decide (a≤x∧x≤b)))∧Below w.heap.size w w':=by
 by_cases h1:a≤x
 ·by_cases h2:x≤b
  ·go_enter Tryz.func64,Tryz.ntmps64
   go_wp2
   go_ret
   exact⟨by simp[h1,h2],(Below.refl _ _).alloc (Nat.le_refl _) _⟩
  ·go_enter Tryz.func64,Tryz.ntmps64
   go_wp2
   go_ret
   exact⟨by simp[h2],(Below.refl _ _).alloc (Nat.le_refl _) _⟩
 ·go_enter Tryz.func64,Tryz.ntmps64
  go_wp2
  go_ret
  exact⟨by simp;omega,(Below.refl _ _).alloc (Nat.le_refl _) _⟩
def nJ (w:World) (a:Option Addr) (len:Nat) (O R:Nat→Int):Prop:=
 len=0∨ ∃lb off,a=some ⟨lb,off,none⟩∧lb<w.heap.size∧ ∀j,j<len→w.cell? ⟨lb,off+j*2,none⟩=some (.int .i64 (O j))∧w.cell? ⟨lb,off+j*2+1,none⟩=some (.int .i64 (R j))
theorem nJ.below {w w':World} {a:Option Addr} {len:Nat} {O R:Nat→Int} (h:nJ w a len O R) (hb:Below w.heap.size w w'):nJ w' a len O R:=by
 rcases h with h|⟨lb,off,rfl,hlb,hc⟩
 ·exact .inl h
 ·refine .inr ⟨lb,off,rfl,Nat.lt_of_lt_of_le hlb hb.size,fun j hj=> ?_⟩
  obtain⟨q1,q2⟩:=hc j hj
  exact⟨(hb.cell (p:=⟨lb,off+j*2,none⟩) hlb).trans q1,(hb.cell (p:=⟨lb,off+j*2+1,none⟩) hlb).trans q2⟩
def cT (n op arg:Int):Bool:=known op&&decide (lo op≤arg∧arg≤hi n op)
def wQ (len:Nat) (O R:Nat→Int) (e at_:Int):Prop:=
 ((len<1∨64<len)∧e=3∧at_=0)∨
 (1≤len∧len≤64∧ ∃j:Nat,j<len∧(∀i,i<j→cT len (O i) (R i)=true)∧cT len (O j) (R j)=false∧e=3∧at_=j)∨
 (1≤len∧len≤64∧(∀i,i<len→cT len (O i) (R i)=true)∧O (len-1)≠8∧O (len-1)≠9∧e=3∧at_=((len-1:Nat):Int))∨
 (1≤len∧len≤64∧(∀i,i<len→cT len (O i) (R i)=true)∧(O (len-1)=8∨O (len-1)=9)∧e=0∧at_=0)
theorem wQ.one {len:Nat} {O R:Nat→Int} {e a e' a':Int} (h:wQ len O R e a) (h':wQ len O R e' a'):e'=e∧a'=a:=by
 have no: ∀{j i:Nat},cT len (O j) (R j)=false→(∀k,k<i→cT len (O k) (R k)=true)→j<i→False:=by
  intro j i h1 h2 h3
  rw[h2 j h3] at h1
  cases h1
 rcases h with ⟨h1,h2,h3⟩|⟨h1,h2,j,h3,h4,h5,h6,h7⟩|⟨h1,h2,h3,h4,h5,h6,h7⟩|⟨h1,h2,h3,h4,h5,h6⟩<;>
 rcases h' with ⟨g1,g2,g3⟩|⟨g1,g2,i,g3,g4,g5,g6,g7⟩|⟨g1,g2,g3,g4,g5,g6,g7⟩|⟨g1,g2,g3,g4,g5,g6⟩<;>subst_vars<;>try omega
 ·have:i=j:=by
   rcases Nat.lt_trichotomy i j with q|q|q
   ·exact(no g5 h4 q).elim
   ·exact q
   ·exact(no h5 g4 q).elim
  subst this
  exact⟨rfl,rfl⟩
 all_goals first|exact(no h5 g3 h3).elim|exact(no g5 h3 g3).elim
theorem lS (w:World) (a:Option Addr) (len cap:Nat) (hlen:len<9223372036854775808) (O R:Nat→Int) (hp:nJ w a len O R):
  Calls Tryz.prog 42 #[.slice a len cap] w fun e w'=> ∃x y:Int,e= .returned (.tuple #[.int .i64 x,.int .i64 y])∧wQ len O R x y∧Below w.heap.size w w':=by
 by_cases hl1:len<1
 ·have hl1':(len:Int)<1:=by omega
  go_enter Tryz.func42,Tryz.ntmps42
  go_wp2
  go_ret2
  exact⟨_,_,rfl,.inl ⟨.inl hl1,rfl,rfl⟩,Below.refl _ _⟩
 by_cases hl2:64<len
 ·have hl1': ¬(len:Int)<1:=by omega
  have hl2':64<(len:Int):=by omega
  go_enter Tryz.func42,Tryz.ntmps42
  go_wp2
  go_ret2
  exact⟨_,_,rfl,.inl ⟨.inr hl2,rfl,rfl⟩,Below.refl _ _⟩
 have hl1': ¬(len:Int)<1:=by omega
 have hl2': ¬64<(len:Int):=by omega
 have HP:=aa hp
 have HS:=aa (yz w len (by omega) (by omega))
 clear hp
 go_enter Tryz.func42,Tryz.ntmps42
 go_wp2_with (go_at_call 63;refine(HS.out).mono ?_;rintro e w1 ⟨rfl,hw⟩;have HW:=aa hw;clear hw)
 have HM:Hid (w1.heap[w.heap.size]? =some (.map (bj len).toArray 9)):=by rw[HW.out];exact heap_alloc_new w _
 have HL:Hid (Below w.heap.size w w1):=by rw[HW.out];exact(Below.refl _ _).alloc (Nat.le_refl _) _
 have hsz:w1.heap.size=w.heap.size+1:=by rw[HW.out];simp[dn]
 clear HW HS
 have hcap:0≤(len:Int):=by omega
 go_loopw [23] (fun i wr=> ∃(j:Nat),j≤len∧i= .int .i64 j∧(∀k,k<j→cT len (O k) (R k)=true)∧Below w1.heap.size w1 wr) (fun i _=>len-(intOf i).toNat)
 case atStart=>exact⟨0,by omega,rfl,fun k hk=>by omega,Below.refl _ _⟩
 case round=>
  obtain⟨j,hj,rfl,hall,hbel⟩:=hrel
  by_cases hjl:j<len
  ·have hjl':(j:Int)<(len:Int):=by omega
   rcases HP.out with h0|⟨lb,off,rfl,hlb,hc⟩
   ·omega
   ·obtain⟨z1,z2⟩:=hc j hjl
    have y1:=(hbel.cell (p:=⟨lb,off+j*2,none⟩) (by simp;omega)).trans ((HL.out.cell (p:=⟨lb,off+j*2,none⟩) hlb).trans z1)
    have y2:=(hbel.cell (p:=⟨lb,off+j*2+1,none⟩) (by simp;omega)).trans ((HL.out.cell (p:=⟨lb,off+j*2+1,none⟩) hlb).trans z2)
    have HB:=aa hbel
    have HA:=aa hall
    clear hc z1 z2 hbel hall
    have hm:(wr.alloc (.cells #[.int .i64 (O j),.int .i64 (R j)] 48)).heap[w.heap.size]? =some (.map (bj len).toArray 9):=by
     rw[Below.heap_alloc _ _ _ (by have:=HB.out.size;omega),HB.out.block _ (by omega)]
     exact HM.out
    have hk:=xJ _ _ _ (O j) hm
    clear hm
    cases hkn:known (O j) with
    |false=>
     rw[hkn] at hk
     go_wp2
     go_ret2
     exact⟨_,_,rfl,.inr (.inl ⟨by omega,by omega,j,hjl,HA.out,by simp[cT,hkn],rfl,rfl⟩),HL.out.trans (((HB.out.mono (by omega)).alloc (by have:=HB.out.size;omega) _).alloc (by have:=HB.out.size;simp;omega) _)⟩
    |true=>
     rw[hkn] at hk
     have HH:=aa (fun W=>Aj (lo (O j)) (hi len (O j)) (R j) W)
     cases hin:decide (lo (O j)≤R j∧R j≤hi len (O j)) with
     |false=>
      rw[hin] at HH
      go_wp2_with (go_at_call 64;refine(HH.out _).mono ?_;rintro e w2 ⟨rfl,hb⟩;have HB2:=aa hb;clear hb)
      go_ret2
      exact⟨_,_,rfl,.inr (.inl ⟨by omega,by omega,j,hjl,HA.out,by simp only[cT,hkn,hin,Bool.and_false],rfl,rfl⟩),(HL.out.trans (((HB.out.mono (by omega)).alloc (by have:=HB.out.size;omega) _).alloc (by have:=HB.out.size;simp;omega) _)).trans (HB2.out.mono (by have:=HB.out.size;simp;omega))⟩
     |true=>
      rw[hin] at HH
      go_wp2_with (go_at_call 64;refine(HH.out _).mono ?_;rintro e w2 ⟨rfl,hb⟩;have HB2:=aa hb;clear hb)
      go_roundw
      case rel=>
       refine⟨j+1,by omega,by go_num,fun k hk'=> ?_,(((HB.out).alloc (by have:=HB.out.size;omega) _).alloc (by have:=HB.out.size;simp;omega) _).trans (HB2.out.mono (by have:=HB.out.size;simp;omega))⟩
       by_cases q:k=j
       ·subst q;simp only[cT,hkn,hin,Bool.and_self]
       ·exact HA.out k (by omega)
      case measure=>simp[intOf];omega
  ·have hjl': ¬(j:Int)<(len:Int):=by omega
   obtain rfl:j=len:=by omega
   rcases HP.out with h0|⟨lb,off,rfl,hlb,hc⟩
   ·omega
   obtain⟨z1,_⟩:=hc (j-1) (by omega)
   have y1:=(hbel.cell (p:=⟨lb,off+(j-1)*2,none⟩) (by simp;omega)).trans ((HL.out.cell (p:=⟨lb,off+(j-1)*2,none⟩) hlb).trans z1)
   have HB:=aa hbel
   have HA:=aa hall
   clear hc z1 hbel hall
   obtain⟨n,rfl⟩: ∃n,j=n+1:=⟨j-1,by omega⟩
   have e1:((n+1:Nat):Int)-1=(n:Nat):=by omega
   have e2:(n:Int)<((n+1:Nat):Int):=by omega
   simp only[Nat.add_sub_cancel] at y1
   have HL2:Hid (Below w.heap.size w wr):=HL.out.trans (HB.out.mono (by omega))
   clear HL HB HM
   by_cases h8:O n=8
   ·go_wp2
    go_ret2
    exact⟨_,_,rfl,.inr (.inr (.inr ⟨by omega,by omega,HA.out,.inl h8,rfl,rfl⟩)),HL2.out⟩
   ·by_cases h9:O n=9
    ·go_wp2
     go_ret2
     exact⟨_,_,rfl,.inr (.inr (.inr ⟨by omega,by omega,HA.out,.inr h9,rfl,rfl⟩)),HL2.out⟩
    ·have b8:(O n !=8)=true:=by simpa using h8
     have b9:(O n !=9)=true:=by simpa using h9
     go_wp2
     go_ret2
     exact⟨_,_,rfl,.inr (.inr (.inl ⟨by omega,by omega,HA.out,h8,h9,rfl,by go_num⟩)),HL2.out⟩
theorem Fb (n x:Int) (w:World):Calls Tryz.prog 96 #[.agg #[.int .i64 1,.int .i64 x],.int .i64 n] w fun e w'=>e= .returned (.bool (cT n 1 x))∧Below w.heap.size w w':=by
 by_cases h1:1≤x
 ·by_cases h2:x≤65536
  ·have hk:cT n 1 x=true:=by simp[cT,known,lo,hi];omega
   go_enter Tryz.func96,Tryz.ntmps96
   go_wp2
   go_ret
   exact⟨by first|rfl|(rw[hk];rfl),(Below.refl _ _).alloc (Nat.le_refl _) _⟩
  ·have hk:cT n 1 x=false:=by simp[cT,known,lo,hi];omega
   go_enter Tryz.func96,Tryz.ntmps96
   go_wp2
   go_ret
   exact⟨by first|rfl|(rw[hk];rfl),(Below.refl _ _).alloc (Nat.le_refl _) _⟩
 ·have hk:cT n 1 x=false:=by simp[cT,known,lo,hi];omega
  go_enter Tryz.func96,Tryz.ntmps96
  go_wp2
  go_ret
  exact⟨by first|rfl|(rw[hk];rfl),(Below.refl _ _).alloc (Nat.le_refl _) _⟩
theorem Fe (n x:Int) (w:World):Calls Tryz.prog 96 #[.agg #[.int .i64 2,.int .i64 x],.int .i64 n] w fun e w'=>e= .returned (.bool (cT n 2 x))∧Below w.heap.size w w':=by
 by_cases h1:0≤x
 ·by_cases h2:x<32
  ·have hk:cT n 2 x=true:=by simp[cT,known,lo,hi];omega
   go_enter Tryz.func96,Tryz.ntmps96
   go_wp2
   go_ret
   exact⟨by first|rfl|(rw[hk];rfl),(Below.refl _ _).alloc (Nat.le_refl _) _⟩
  ·have hk:cT n 2 x=false:=by simp[cT,known,lo,hi];omega
   go_enter Tryz.func96,Tryz.ntmps96
   go_wp2
   go_ret
   exact⟨by first|rfl|(rw[hk];rfl),(Below.refl _ _).alloc (Nat.le_refl _) _⟩
 ·have hk:cT n 2 x=false:=by simp[cT,known,lo,hi];omega
  go_enter Tryz.func96,Tryz.ntmps96
  go_wp2
  go_ret
  exact⟨by first|rfl|(rw[hk];rfl),(Below.refl _ _).alloc (Nat.le_refl _) _⟩
theorem EU (n x:Int) (w:World):Calls Tryz.prog 96 #[.agg #[.int .i64 3,.int .i64 x],.int .i64 n] w fun e w'=>e= .returned (.bool (cT n 3 x))∧Below w.heap.size w w':=by
 by_cases h1:0≤x
 ·by_cases h2:x<32
  ·have hk:cT n 3 x=true:=by simp[cT,known,lo,hi];omega
   go_enter Tryz.func96,Tryz.ntmps96
   go_wp2
   go_ret
   exact⟨by first|rfl|(rw[hk];rfl),(Below.refl _ _).alloc (Nat.le_refl _) _⟩
  ·have hk:cT n 3 x=false:=by simp[cT,known,lo,hi];omega
   go_enter Tryz.func96,Tryz.ntmps96
   go_wp2
   go_ret
   exact⟨by first|rfl|(rw[hk];rfl),(Below.refl _ _).alloc (Nat.le_refl _) _⟩
 ·have hk:cT n 3 x=false:=by simp[cT,known,lo,hi];omega
  go_enter Tryz.func96,Tryz.ntmps96
  go_wp2
  go_ret
  exact⟨by first|rfl|(rw[hk];rfl),(Below.refl _ _).alloc (Nat.le_refl _) _⟩
theorem Er (n x:Int) (w:World):Calls Tryz.prog 96 #[.agg #[.int .i64 4,.int .i64 x],.int .i64 n] w fun e w'=>e= .returned (.bool (cT n 4 x))∧Below w.heap.size w w':=by
 by_cases h1:0≤x
 ·by_cases h2:x<16
  ·have hk:cT n 4 x=true:=by simp[cT,known,lo,hi];omega
   go_enter Tryz.func96,Tryz.ntmps96
   go_wp2
   go_ret
   exact⟨by first|rfl|(rw[hk];rfl),(Below.refl _ _).alloc (Nat.le_refl _) _⟩
  ·have hk:cT n 4 x=false:=by simp[cT,known,lo,hi];omega
   go_enter Tryz.func96,Tryz.ntmps96
   go_wp2
   go_ret
   exact⟨by first|rfl|(rw[hk];rfl),(Below.refl _ _).alloc (Nat.le_refl _) _⟩
 ·have hk:cT n 4 x=false:=by simp[cT,known,lo,hi];omega
  go_enter Tryz.func96,Tryz.ntmps96
  go_wp2
  go_ret
  exact⟨by first|rfl|(rw[hk];rfl),(Below.refl _ _).alloc (Nat.le_refl _) _⟩
theorem ER (n x:Int) (w:World):Calls Tryz.prog 96 #[.agg #[.int .i64 5,.int .i64 x],.int .i64 n] w fun e w'=>e= .returned (.bool (cT n 5 x))∧Below w.heap.size w w':=by
 by_cases h1:1≤x
 ·by_cases h2:x≤65536
  ·have hk:cT n 5 x=true:=by simp[cT,known,lo,hi];omega
   go_enter Tryz.func96,Tryz.ntmps96
   go_wp2
   go_ret
   exact⟨by first|rfl|(rw[hk];rfl),(Below.refl _ _).alloc (Nat.le_refl _) _⟩
  ·have hk:cT n 5 x=false:=by simp[cT,known,lo,hi];omega
   go_enter Tryz.func96,Tryz.ntmps96
   go_wp2
   go_ret
   exact⟨by first|rfl|(rw[hk];rfl),(Below.refl _ _).alloc (Nat.le_refl _) _⟩
 ·have hk:cT n 5 x=false:=by simp[cT,known,lo,hi];omega
  go_enter Tryz.func96,Tryz.ntmps96
  go_wp2
  go_ret
  exact⟨by first|rfl|(rw[hk];rfl),(Below.refl _ _).alloc (Nat.le_refl _) _⟩
theorem Eo (n x:Int) (w:World):Calls Tryz.prog 96 #[.agg #[.int .i64 7,.int .i64 x],.int .i64 n] w fun e w'=>e= .returned (.bool (cT n 7 x))∧Below w.heap.size w w':=by
 by_cases h1:0≤x
 ·by_cases h2:x<256
  ·have hk:cT n 7 x=true:=by simp[cT,known,lo,hi];omega
   go_enter Tryz.func96,Tryz.ntmps96
   go_wp2
   go_ret
   exact⟨by first|rfl|(rw[hk];rfl),(Below.refl _ _).alloc (Nat.le_refl _) _⟩
  ·have hk:cT n 7 x=false:=by simp[cT,known,lo,hi];omega
   go_enter Tryz.func96,Tryz.ntmps96
   go_wp2
   go_ret
   exact⟨by first|rfl|(rw[hk];rfl),(Below.refl _ _).alloc (Nat.le_refl _) _⟩
 ·have hk:cT n 7 x=false:=by simp[cT,known,lo,hi];omega
  go_enter Tryz.func96,Tryz.ntmps96
  go_wp2
  go_ret
  exact⟨by first|rfl|(rw[hk];rfl),(Below.refl _ _).alloc (Nat.le_refl _) _⟩
theorem Fp (n x:Int) (w:World):Calls Tryz.prog 96 #[.agg #[.int .i64 8,.int .i64 x],.int .i64 n] w fun e w'=>e= .returned (.bool (cT n 8 x))∧Below w.heap.size w w':=by
 by_cases h1:0≤x
 ·by_cases h2:x<n
  ·have hk:cT n 8 x=true:=by simp[cT,known,lo,hi];omega
   go_enter Tryz.func96,Tryz.ntmps96
   go_wp2
   go_ret
   exact⟨by first|rfl|(rw[hk];rfl),(Below.refl _ _).alloc (Nat.le_refl _) _⟩
  ·have hk:cT n 8 x=false:=by simp[cT,known,lo,hi];omega
   go_enter Tryz.func96,Tryz.ntmps96
   go_wp2
   go_ret
   exact⟨by first|rfl|(rw[hk];rfl),(Below.refl _ _).alloc (Nat.le_refl _) _⟩
 ·have hk:cT n 8 x=false:=by simp[cT,known,lo,hi];omega
  go_enter Tryz.func96,Tryz.ntmps96
  go_wp2
  go_ret
  exact⟨by first|rfl|(rw[hk];rfl),(Below.refl _ _).alloc (Nat.le_refl _) _⟩
theorem E5 (n x:Int) (w:World):Calls Tryz.prog 96 #[.agg #[.int .i64 6,.int .i64 x],.int .i64 n] w fun e w'=>e= .returned (.bool (cT n 6 x))∧Below w.heap.size w w':=by
 have hk:cT n 6 x=(x==0):=by
  by_cases h:x=0
  ·subst h;rfl
  ·rw[show(x==0)=false by simpa using h]
   simp[cT,known,lo,hi]
   omega
 go_enter Tryz.func96,Tryz.ntmps96
 go_wp2
 go_ret
 exact⟨by first|rfl|(rw[hk];rfl),(Below.refl _ _).alloc (Nat.le_refl _) _⟩
theorem EY (n x:Int) (w:World):Calls Tryz.prog 96 #[.agg #[.int .i64 9,.int .i64 x],.int .i64 n] w fun e w'=>e= .returned (.bool (cT n 9 x))∧Below w.heap.size w w':=by
 have hk:cT n 9 x=(x==0):=by
  by_cases h:x=0
  ·subst h;rfl
  ·rw[show(x==0)=false by simpa using h]
   simp[cT,known,lo,hi]
   omega
 go_enter Tryz.func96,Tryz.ntmps96
 go_wp2
 go_ret
 exact⟨by first|rfl|(rw[hk];rfl),(Below.refl _ _).alloc (Nat.le_refl _) _⟩
theorem sA (n op x:Int) (w:World) (h:known op=false):Calls Tryz.prog 96 #[.agg #[.int .i64 op,.int .i64 x],.int .i64 n] w fun e w'=>e= .returned (.bool (cT n op x))∧Below w.heap.size w w':=by
 have hk:cT n op x=false:=by simp[cT,h]
 have hq:op<1∨9<op:=by simp[known] at h;omega
 have b1:(op==1)=false:=by simp;omega
 have b2:(op==2)=false:=by simp;omega
 have b3:(op==3)=false:=by simp;omega
 have b4:(op==4)=false:=by simp;omega
 have b5:(op==5)=false:=by simp;omega
 have b6:(op==6)=false:=by simp;omega
 have b7:(op==7)=false:=by simp;omega
 have b8:(op==8)=false:=by simp;omega
 have b9:(op==9)=false:=by simp;omega
 have HK:=aa hk
 clear hk hq h
 go_enter Tryz.func96,Tryz.ntmps96
 go_wp2
 go_ret
 exact⟨by rw[HK.out];rfl,(Below.refl _ _).alloc (Nat.le_refl _) _⟩
theorem wW (n op x:Int) (w:World):Calls Tryz.prog 96 #[.agg #[.int .i64 op,.int .i64 x],.int .i64 n] w fun e w'=>e= .returned (.bool (cT n op x))∧Below w.heap.size w w':=by
 cases h:known op with
 |false=>exact sA n op x w h
 |true=>
  have:op=1∨op=2∨op=3∨op=4∨op=5∨op=6∨op=7∨op=8∨op=9:=by simp[known] at h;omega
  rcases this with rfl|rfl|rfl|rfl|rfl|rfl|rfl|rfl|rfl
  ·exact Fb n x w
  ·exact Fe n x w
  ·exact EU n x w
  ·exact Er n x w
  ·exact ER n x w
  ·exact E5 n x w
  ·exact Eo n x w
  ·exact Fp n x w
  ·exact EY n x w
theorem oS (w:World) (a:Option Addr) (len cap:Nat) (hlen:len<9223372036854775808) (O R:Nat→Int) (hp:nJ w a len O R):
  Calls Tryz.prog 68 #[.slice a len cap] w fun e w'=> ∃x y:Int,e= .returned (.tuple #[.int .i64 x,.int .i64 y])∧wQ len O R x y∧Below w.heap.size w w':=by
 by_cases hl1:len<1
 ·have hl1':(len:Int)<1:=by omega
  go_enter Tryz.func68,Tryz.ntmps68
  go_wp2
  go_ret2
  exact⟨_,_,rfl,.inl ⟨.inl hl1,rfl,rfl⟩,Below.refl _ _⟩
 by_cases hl2:64<len
 ·have hl1': ¬(len:Int)<1:=by omega
  have hl2':64<(len:Int):=by omega
  go_enter Tryz.func68,Tryz.ntmps68
  go_wp2
  go_ret2
  exact⟨_,_,rfl,.inl ⟨.inr hl2,rfl,rfl⟩,Below.refl _ _⟩
 have hl1': ¬(len:Int)<1:=by omega
 have hl2': ¬64<(len:Int):=by omega
 have HP:=aa hp
 clear hp
 go_enter Tryz.func68,Tryz.ntmps68
 go_wp2
 go_loopw [5] (fun i wr=> ∃(j:Nat),j≤len∧i= .int .i64 j∧(∀k,k<j→cT len (O k) (R k)=true)∧Below w.heap.size w wr) (fun i _=>len-(intOf i).toNat)
 case atStart=>exact⟨0,by omega,rfl,fun k hk=>by omega,Below.refl _ _⟩
 case round=>
  obtain⟨j,hj,rfl,hall,hbel⟩:=hrel
  by_cases hjl:j<len
  ·have hjl':(j:Int)<(len:Int):=by omega
   rcases HP.out with h0|⟨lb,off,rfl,hlb,hc⟩
   ·omega
   ·obtain⟨z1,z2⟩:=hc j hjl
    have y1:=(hbel.cell (p:=⟨lb,off+j*2,none⟩) hlb).trans z1
    have y2:=(hbel.cell (p:=⟨lb,off+j*2+1,none⟩) hlb).trans z2
    have HB:=aa hbel
    have HA:=aa hall
    clear hc z1 z2 hbel hall
    have HH:=aa (fun W=>wW len (O j) (R j) W)
    cases hin:cT len (O j) (R j) with
    |false=>
     rw[hin] at HH
     go_wp2_with (go_at_call 96;refine(HH.out _).mono ?_;rintro e w2 ⟨rfl,hb⟩;have HB2:=aa hb;clear hb)
     go_ret2
     exact⟨_,_,rfl,.inr (.inl ⟨by omega,by omega,j,hjl,HA.out,hin,rfl,rfl⟩),HB.out.trans (HB2.out.mono HB.out.size)⟩
    |true=>
     rw[hin] at HH
     go_wp2_with (go_at_call 96;refine(HH.out _).mono ?_;rintro e w2 ⟨rfl,hb⟩;have HB2:=aa hb;clear hb)
     go_roundw
     case rel=>
      refine⟨j+1,by omega,by go_num,fun k hk'=> ?_,HB.out.trans (HB2.out.mono HB.out.size)⟩
      by_cases q:k=j
      ·subst q;exact hin
      ·exact HA.out k (by omega)
     case measure=>simp[intOf];omega
  ·have hjl': ¬(j:Int)<(len:Int):=by omega
   obtain rfl:j=len:=by omega
   rcases HP.out with h0|⟨lb,off,rfl,hlb,hc⟩
   ·omega
   obtain⟨z1,_⟩:=hc (j-1) (by omega)
   have y1:=(hbel.cell (p:=⟨lb,off+(j-1)*2,none⟩) hlb).trans z1
   have HB:=aa hbel
   have HA:=aa hall
   clear hc z1 hbel hall
   obtain⟨n,rfl⟩: ∃n,j=n+1:=⟨j-1,by omega⟩
   have e1:((n+1:Nat):Int)-1=(n:Nat):=by omega
   have e2:(n:Int)<((n+1:Nat):Int):=by omega
   simp only[Nat.add_sub_cancel] at y1
   by_cases h8:O n=8
   ·go_wp2
    go_ret2
    exact⟨_,_,rfl,.inr (.inr (.inr ⟨by omega,by omega,HA.out,.inl h8,rfl,rfl⟩)),HB.out⟩
   ·by_cases h9:O n=9
    ·go_wp2
     go_ret2
     exact⟨_,_,rfl,.inr (.inr (.inr ⟨by omega,by omega,HA.out,.inr h9,rfl,rfl⟩)),HB.out⟩
    ·have b8:(O n !=8)=true:=by simpa using h8
     have b9:(O n !=9)=true:=by simpa using h9
     go_wp2
     go_ret2
     exact⟨_,_,rfl,.inr (.inr (.inl ⟨by omega,by omega,HA.out,h8,h9,rfl,by go_num⟩)),HB.out⟩
theorem de (w:World) (a:Option Addr) (len cap:Nat) (hlen:len<9223372036854775808) (O R:Nat→Int) (hp:nJ w a len O R):
  Calls Tryz.prog 65 #[.slice a len cap] w fun e w'=> ∃x y:Int,e= .returned (.bool (x==0))∧wQ len O R x y∧Below w.heap.size w w':=by
 have HC:=aa (lS w a len cap hlen O R hp)
 go_enter Tryz.func65,Tryz.ntmps65
 go_wp2_with (go_at_call 42;refine(HC.out).mono ?_;rintro e w1 ⟨x,y,rfl,hc,hb⟩;have H1:=aa hc;have H2:=aa hb;clear hc hb)
 go_ret
 exact⟨x,y,rfl,H1.out,H2.out⟩
theorem fA:(Tryz.prog.info? 5).map (fun i=>(i.zero,i.size,i.bytes))=some (some (.int .u8 0),1,1):=by kernel_rfl
theorem cell_one_new (w:World) (v:Value) (t:TypeId): ∀j u,[v][j]? =some u→(w.alloc (.cells #[v] t)).cell? ((⟨w.heap.size,0,none⟩:Addr).add j)=some u:=by
 intro j u h
 match j,h with
 |0,h=>
  simp at h
  subst h
  have e:((⟨w.heap.size,0,none⟩:Addr).add 0)=⟨w.heap.size,0,none⟩:=rfl
  rw[e]
  unfold World.cell?
  simp only[(MapKept.heap_alloc w (.cells #[v] t)).1]
  rfl
def a6 (n:Nat):Value:= .int .u8 ((n%256:Nat):Int)
def enc (len:Nat) (O R:Nat→Int):Nat→List Value
 |0=>[.int .u8 (len:Int)]
 |k+1=>enc len O R k++[.int .u8 (O k)]++[a6 ((R k).toNat/65536),a6 ((R k).toNat/256),a6 (R k).toNat]
theorem nr {n op x:Int} (hn:n≤64) (h:cT n op x=true):1≤op∧op≤9∧0≤x∧x≤65536:=by
 simp only[cT,known,Bool.and_eq_true,decide_eq_true_eq] at h
 obtain⟨⟨h1,h2⟩,h3,h4⟩:=h
 have hlo:0≤lo op:=by unfold lo;split<;>omega
 have hhi:hi n op≤65536:=by unfold hi;repeat' split<;>omega
 exact⟨h1,h2,by omega,by omega⟩
theorem wQ.zero {len:Nat} {O R:Nat→Int} {y:Int} (h:wQ len O R 0 y):1≤len∧len≤64∧(∀i,i<len→cT len (O i) (R i)=true)∧(O (len-1)=8∨O (len-1)=9)∧y=0:=by
 rcases h with ⟨_,h,_⟩|⟨_,_,_,_,_,_,h,_⟩|⟨_,_,_,_,_,h,_⟩|⟨h1,h2,h3,h4,_,h5⟩
 ·omega
 ·omega
 ·omega
 ·exact⟨h1,h2,h3,h4,h5⟩
theorem wQ.three {len:Nat} {O R:Nat→Int} {x y:Int} (h:wQ len O R x y) (hx:x≠0):x=3:=by
 rcases h with ⟨_,h,_⟩|⟨_,_,_,_,_,_,h,_⟩|⟨_,_,_,_,_,h,_⟩|⟨h1,h2,h3,h4,h5,_⟩
 ·exact h
 ·exact h
 ·exact h
 ·omega
def Rt (len:Nat) (O R:Nat→Int):Prop:= ∃y,wQ len O R 0 y
theorem iy (w:World) (a:Option Addr) (len cap:Nat) (hlen:len<9223372036854775808) (O R:Nat→Int) (hp:nJ w a len O R) (hr:Rt len O R):
  Calls Tryz.prog 65 #[.slice a len cap] w fun e w'=>e= .returned (.bool true)∧Below w.heap.size w w':=
 (de w a len cap hlen O R hp).mono fun e w' ⟨x,y,he,hc,hb⟩=>by
  obtain⟨y',h'⟩:=hr
  obtain⟨rfl,_⟩:=h'.one hc
  exact⟨he,hb⟩
theorem jL (w:World) (a:Option Addr) (len cap:Nat) (hlen:len<9223372036854775808) (O R:Nat→Int) (hp:nJ w a len O R) (hr: ¬Rt len O R):
  Calls Tryz.prog 65 #[.slice a len cap] w fun e w'=>e= .returned (.bool false)∧Below w.heap.size w w'∧ ∃y,wQ len O R 3 y:=
 (de w a len cap hlen O R hp).mono fun e w' ⟨x,y,he,hc,hb⟩=>by
  have hx:x≠0:=fun q=>hr ⟨y,q▸hc⟩
  have h3:=hc.three hx
  subst h3
  exact⟨he,hb,y,hc⟩
end Go.Proofs.YtdbailcdlngemaaGreatDoor.Ex
namespace Go.Proofs.YtdbailcdlngemaaGreatDoor.Ex
open Go.RowKit Go.Lib Go.Deep Go.ChangeShapes Go.WideShapes Go.ChangeAt
def FR (w:World) (a:Option Addr) (len:Nat) (X:Nat→Nat):Prop:=
 len=0∨ ∃lb off,a=some ⟨lb,off,none⟩∧lb<w.heap.size∧ ∀j,j<len→w.cell? ⟨lb,off+j,none⟩=some (.int .u8 (X j:Int))∧X j<256
section
variable {H:Type} {enc:TypeId×Value→H} {w:World} {base:Nat} {spare:Nat→Bool} {held:Bool}
end
end Go.Proofs.YtdbailcdlngemaaGreatDoor.Ex
namespace Go.Proofs.YtdbailcdlngemaaGreatDoor.Ex
open Go.RowKit Go.Lib
theorem sc (w:World) (a:Option Addr) (len cap:Nat) (hlen:len<9223372036854775808) (O R:Nat→Int) (hp:nJ w a len O R) (hr:Rt len O R):
  Calls Tryz.prog 68 #[.slice a len cap] w fun e w'=>e= .returned (.tuple #[.int .i64 0,.int .i64 0])∧Below w.heap.size w w':=
 (oS w a len cap hlen O R hp).mono fun e w' ⟨x,y,he,hc,hb⟩=>by
  obtain⟨y',h'⟩:=hr
  obtain⟨rfl,rfl⟩:=h'.one hc
  obtain⟨_,_,_,_,rfl⟩:=hc.zero
  exact⟨he,hb⟩
theorem below_drewN {B:Nat} {w w':World} (h:Below B w w') (q:Nat):Below B w (w'.drewN q):=⟨h.os,h.tape,h.output,h.size,h.block⟩
theorem qj (w:World) (a:Option Addr) (len cap:Nat) (hlen:len<9223372036854775808) (O R:Nat→Int) (hp:nJ w a len O R) (x y:Int) (h:wQ len O R x y):
  Calls Tryz.prog 42 #[.slice a len cap] w fun e w'=>e= .returned (.tuple #[.int .i64 x,.int .i64 y])∧Below w.heap.size w w':=
 (lS w a len cap hlen O R hp).mono fun e w' ⟨x',y',he,hc,hb⟩=>by
  obtain⟨rfl,rfl⟩:=h.one hc
  exact⟨he,hb⟩
theorem oy (f:Nat→Bool): ∀n,(∀i,i<n→f i=true)∨ ∃j,j<n∧(∀i,i<j→f i=true)∧f j=false
 |0=> .inl (fun i hi=>by omega)
 |n+1=>by
  rcases oy f n with h|⟨j,h1,h2,h3⟩
  ·cases hk:f n with
   |true=>
    refine .inl (fun i hi=> ?_)
    by_cases q:i=n
    ·rw[q];exact hk
    ·exact h i (by omega)
   |false=>exact .inr ⟨n,by omega,h,hk⟩
  ·exact .inr ⟨j,by omega,h2,h3⟩
def aR (O R:Nat→Int):Nat→List Value
 |0=>[]
 |k+1=>aR O R k++[.int .i64 (O k),.int .i64 (R k)]
theorem bE (O R:Nat→Int): ∀k,(aR O R k).length=k*2
 |0=>rfl
 |k+1=>by simp[aR,bE O R k];omega
theorem fh (O R:Nat→Int): ∀(k i:Nat),i<k→(aR O R k)[i*2]? =some (.int .i64 (O i))∧(aR O R k)[i*2+1]? =some (.int .i64 (R i))
 |k+1,i,h=>by
  by_cases q:i=k
  ·subst q
   simp only[aR]
   constructor
   ·rw[List.getElem?_append_right (by rw[bE];omega),bE]
    simp
   ·rw[List.getElem?_append_right (by rw[bE];omega),bE]
    simp
  ·have:=fh O R k i (by omega)
   simp only[aR]
   rw[List.getElem?_append_left (by rw[bE];omega),List.getElem?_append_left (by rw[bE];omega)]
   exact this
theorem Cn {w:World} {base:Nat} {v:Value} {k:Nat} {O R:Nat→Int} (h:w.ownsRow base 48 2 v (k+1) (aR O R (k+1))): ∃a cap,v= .slice a (k+1) cap∧nJ w a (k+1) O R:=by
 rcases h.2 with ⟨_,h0⟩|⟨g,cap,cur,rfl,_,hb,_,_,_,ht⟩
 ·omega
 ·refine⟨_,cap,rfl,.inr ⟨g,0,rfl,(Array.getElem?_eq_some_iff.1 hb).1,fun j hj=> ?_⟩⟩
  obtain⟨p1,p2⟩:=fh O R (k+1) j hj
  have hz: ∀i u,i<(k+1)*2→(aR O R (k+1))[i]? =some u→w.cell? ⟨g,0+i,none⟩=some u:=by
   intro i u hi hu
   rw[←ht,List.getElem?_take_of_lt hi] at hu
   unfold World.cell?
   simp only[hb]
   simpa using hu
  refine⟨hz _ _ (by omega) p1,?_⟩
  have:=hz (j*2+1) _ (by omega) p2
  rw[←Nat.add_assoc] at this
  exact this
theorem tQ:(Tryz.prog.info? 48).map (fun i=>(i.zero,i.size,i.bytes))=some (some (.agg #[.int .i64 0,.int .i64 0]),2,16):=by kernel_rfl
theorem GV (y x:Nat) (hy:y<16777216) (hx:x<256):bits .or .i64 ((y:Int)*256) (x:Int)=(y:Int)*256+(x:Int):=by
 refine bits_join .i64 63 (by decide) (fun n h0 h1=>by simp[IntKind.wrap,IntKind.bits,IntKind.signed];omega) 8 _ _ (by omega) (by omega) (by omega) (by omega) (by omega) (by omega)
theorem jo (w:World) (rb:Nat) (a:Option Addr) (len cap size:Nat) (hr:w.cell? ⟨rb,0,none⟩=some (.slice a len cap)) (h:len<size) (hs:size≤3):
  Calls Tryz.prog 98 #[.pointer (some ⟨rb,0,none⟩),.int .i64 (size:Int)] w fun e w'=>e= .panicked [{v:= .iface 223 (.agg #[]),recovered:=false}]∧w'=w:=by
 have h':(len:Int)<(size:Int):=by omega
 go_enter Tryz.func98,Tryz.ntmps98
 go_wp2
 simp[bodyPost]
theorem uo (w:World) (rb lb off len cap:Nat) (x:Nat) (hx:x<256) (hr:w.cell? ⟨rb,0,none⟩=some (.slice (some ⟨lb,off,none⟩) len cap)) (hf:w.frozen? ⟨rb,0,none⟩=false) (hl:1≤len) (hc:len≤cap) (hcap:cap<9223372036854775808)
  (h0:w.cell? ⟨lb,off,none⟩=some (.int .u8 (x:Int))):
  Calls Tryz.prog 98 #[.pointer (some ⟨rb,0,none⟩),.int .i64 1] w fun e w'=>e= .returned (.int .i64 (x:Int))∧ ∃a,w'=w.setCell ⟨rb,0,none⟩ (.slice (some a) (len-1) (cap-1))∧(1<len→a=⟨lb,off+1,none⟩):=by
 have hl': ¬(len:Int)<1:=by omega
 have hor:bits .or .i64 0 (x:Int)=(x:Int):=by have:=GV 0 x (by omega) hx;simpa using this
 have hc':1≤(cap:Int):=by omega
 go_enter Tryz.func98,Tryz.ntmps98
 go_wp2
 go_loopw [5,24] (fun s i wr=>wr=w∧((s= .int .i64 0∧i= .int .i64 0)∨(s= .int .i64 (x:Int)∧i= .int .i64 1))) (fun _ i _=>1-(intOf i).toNat)
 case atStart=>exact⟨rfl,.inl ⟨rfl,rfl⟩⟩
 case round=>
  obtain⟨rfl,hcase⟩:=hrel
  rcases hcase with ⟨rfl,rfl⟩|⟨rfl,rfl⟩
  ·go_wp2
   go_roundw
   case rel=>exact⟨trivial,.inr ⟨rfl,rfl⟩⟩
   case measure=>decide
  ·by_cases hcc:cap=1
   ·subst hcc
    obtain rfl:len=1:=by omega
    go_wp2
    go_ret
    exact⟨rfl,_,rfl,fun h=>by omega⟩
   ·have hcc': ¬(cap:Int)=1:=by omega
    go_wp2
    go_ret
    exact⟨rfl,_,rfl,fun _=>rfl⟩
theorem Cl (w:World) (rb lb off len cap:Nat) (x0 x1 x2:Nat) (hx0:x0<256) (hx1:x1<256) (hx2:x2<256) (hr:w.cell? ⟨rb,0,none⟩=some (.slice (some ⟨lb,off,none⟩) len cap)) (hf:w.frozen? ⟨rb,0,none⟩=false) (hl:3≤len) (hc:len≤cap) (hcap:cap<9223372036854775808)
  (h0:w.cell? ⟨lb,off,none⟩=some (.int .u8 (x0:Int))) (h1:w.cell? ⟨lb,off+1,none⟩=some (.int .u8 (x1:Int))) (h2:w.cell? ⟨lb,off+2,none⟩=some (.int .u8 (x2:Int))):
  Calls Tryz.prog 98 #[.pointer (some ⟨rb,0,none⟩),.int .i64 3] w fun e w'=>e= .returned (.int .i64 ((x0*65536+x1*256+x2:Nat):Int))∧ ∃a,w'=w.setCell ⟨rb,0,none⟩ (.slice (some a) (len-3) (cap-3))∧(3<len→a=⟨lb,off+3,none⟩):=by
 have hl': ¬(len:Int)<3:=by omega
 have hor0:bits .or .i64 0 (x0:Int)=(x0:Int):=by have:=GV 0 x0 (by omega) hx0;simpa using this
 have hor1:bits .or .i64 ((x0:Int)*256) (x1:Int)=(x0:Int)*256+(x1:Int):=GV x0 x1 (by omega) hx1
 have hor2:bits .or .i64 (((x0:Int)*256+(x1:Int))*256) (x2:Int)=((x0:Int)*256+(x1:Int))*256+(x2:Int):=by
  have:=GV (x0*256+x1) x2 (by omega) hx2
  simpa using this
 have hc':3≤(cap:Int):=by omega
 go_enter Tryz.func98,Tryz.ntmps98
 go_wp2
 go_loopw [5,24] (fun s i wr=>wr=w∧((s= .int .i64 0∧i= .int .i64 0)∨(s= .int .i64 (x0:Int)∧i= .int .i64 1)∨(s= .int .i64 ((x0:Int)*256+(x1:Int))∧i= .int .i64 2)∨(s= .int .i64 (((x0:Int)*256+(x1:Int))*256+(x2:Int))∧i= .int .i64 3))) (fun _ i _=>3-(intOf i).toNat)
 case atStart=>exact⟨rfl,.inl ⟨rfl,rfl⟩⟩
 case round=>
  obtain⟨rfl,hcase⟩:=hrel
  rcases hcase with ⟨rfl,rfl⟩|⟨rfl,rfl⟩|⟨rfl,rfl⟩|⟨rfl,rfl⟩
  ·go_wp2
   go_roundw
   case rel=>exact⟨trivial,.inr (.inl ⟨rfl,rfl⟩)⟩
   case measure=>decide
  ·go_wp2
   go_roundw
   case rel=>exact⟨trivial,.inr (.inr (.inl ⟨rfl,rfl⟩))⟩
   case measure=>decide
  ·go_wp2
   go_roundw
   case rel=>exact⟨trivial,.inr (.inr (.inr ⟨rfl,rfl⟩))⟩
   case measure=>decide
  ·by_cases hcc:cap=3
   ·subst hcc
    obtain rfl:len=3:=by omega
    go_wp2
    go_ret
    refine⟨?_,_,rfl,fun h=>by omega⟩
    show Ending.returned (.int .i64 (((x0:Int)*256+(x1:Int))*256+(x2:Int)))=_
    congr 2
    omega
   ·have hcc': ¬(cap:Int)=3:=by omega
    go_wp2
    go_ret
    refine⟨?_,_,rfl,fun _=>rfl⟩
    show Ending.returned (.int .i64 (((x0:Int)*256+(x1:Int))*256+(x2:Int)))=_
    congr 2
    omega
theorem EB (w:World) (rb:Nat) (a:Option Addr) (cap:Nat) (hr:w.cell? ⟨rb,0,none⟩=some (.slice a 0 cap)):
  Calls Tryz.prog 99 #[.pointer (some ⟨rb,0,none⟩)] w fun e w'=>e= .returned (.tuple #[])∧w'=w:=by
 go_enter Tryz.func99,Tryz.ntmps99
 go_wp2
 go_end0
 exact⟨rfl,rfl⟩
theorem yf (w:World) (rb:Nat) (a:Option Addr) (len cap:Nat) (hl:0<len) (hr:w.cell? ⟨rb,0,none⟩=some (.slice a len cap)):
  Calls Tryz.prog 99 #[.pointer (some ⟨rb,0,none⟩)] w fun e w'=>e= .panicked [{v:= .iface 223 (.agg #[]),recovered:=false}]∧w'=w:=by
 have hl':0<(len:Int):=by omega
 go_enter Tryz.func99,Tryz.ntmps99
 go_wp2
 simp[bodyPost]
theorem aO (p:Addr) (x:Value) (older:List PanicEntry) (w:World) (hc:w.cell? p=some x) (hz:w.frozen? p=false) (hs: ∃a l c,x= .slice a l c):
  CallsD Tryz.prog 97 #[.pointer (some p)] (.panicking ({v:= .iface 223 (.agg #[]),recovered:=false}::older)) w fun e u' w'=>
   e= .returned (.tuple #[])∧u'= .panicking ({v:= .iface 223 (.agg #[]),recovered:=true}::older)∧w'=(w.alloc (.cells #[] 223)).setCell p (.slice none 0 0):=by
 refine callsD_of_wpS Tryz.func97 rfl fun c₀ cs hu=> ?_
 apply wpS_seq
 apply wpS_region
 simp[wpOpsS,go_sem,recoverD,hu,Tryz.ntmps97,Exit.thenS]
 obtain⟨a,l,c,rfl⟩:=hs
 refine wpS_of_wp ?_
 have ht:(#[Value.pointer (some p)]++(Array.replicate 9 undef).setIfInBounds 3 (.iface 223 (.agg #[])))= #[.pointer (some p),undef,undef,undef,(.iface 223 (.agg #[])),undef,undef,undef,undef,undef]:=rfl
 rw[ht]
 have hta:(Instr.typeAssert (.iface 223 (.agg #[])) 20 223 true).run Tryz.prog w= .ok (.tuple #[.agg #[],.bool true]) w:=by kernel_rfl
 have hb:=Below.refl w.heap.size w
 have hb2:=hb.alloc (Nat.le_refl _) (.cells #[] 223)
 have hlt:=World.block_lt_of_cell? w _ hc
 have hc2:=(hb2.cell (p:=p) hlt).trans hc
 have hz2:(w.alloc (.cells #[] 223)).frozen? p=false:=by
  rw[←hz]
  unfold World.frozen?
  rw[Below.heap_alloc _ _ _ hlt]
 clear hb hb2 ht
 go_wp2
 cases c₀
 simp_all [bodyPostS,results,Tryz.results97]
theorem ud (p:Addr) (w:World):
  CallsD Tryz.prog 97 #[.pointer (some p)] .returning w fun e u' w'=>e= .returned (.tuple #[])∧u'= .returning∧w'=w:=by
 refine callsD_of_wpS Tryz.func97 rfl fun c₀ cs hu=> ?_
 apply wpS_seq
 apply wpS_region
 simp[wpOpsS,go_sem,recoverD,hu,Tryz.ntmps97,Exit.thenS]
 refine wpS_of_wp ?_
 have ht:(#[Value.pointer (some p)]++(Array.replicate 9 undef).setIfInBounds 3 .nilIface)= #[.pointer (some p),undef,undef,undef,.nilIface,undef,undef,undef,undef,undef]:=rfl
 rw[ht]
 go_wp2
 cases c₀
 simp_all [bodyPostS,results,Tryz.results97]
def jU (X:Nat→Nat) (k:Nat):Int:=(X (1+4*k):Int)
def fO (X:Nat→Nat) (k:Nat):Int:=((X (2+4*k)*65536+X (3+4*k)*256+X (4+4*k):Nat):Int)
def gW (w:World) (X:Nat→Nat) (len:Nat) (v:Value) (w':World):Prop:=
 Below w.heap.size w w'∧((len=1+4*X 0∧w'.ownsRow w.heap.size 48 2 v (X 0) (aR (jU X) (fO X) (X 0)))∨(len≠1+4*X 0∧v= .slice none 0 0))
def cQ (w W:World):World:=(W.alloc (.cells #[] 223)).setCell ⟨w.heap.size,0,none⟩ (.slice none 0 0)
theorem a8 {w W:World} {v:Value} (hc:W.cell? ⟨w.heap.size,0,none⟩=some v):(cQ w W).cell? ⟨w.heap.size,0,none⟩=some (.slice none 0 0):=by
 unfold cQ
 have hlt:=World.block_lt_of_cell? W _ hc
 exact World.cell?_setCell_same _ _ _ ((((Below.refl W.heap.size W).alloc (Nat.le_refl _) (.cells #[] 223)).cell (p:=⟨w.heap.size,0,none⟩) hlt).trans hc)
theorem aZ {w W:World} {X:Nat→Nat} {len:Nat} (hb:Below w.heap.size w W) (hl:len≠1+4*X 0):gW w X len (.slice none 0 0) (cQ w W):=by
 refine⟨?_,.inr ⟨hl,rfl⟩⟩
 have h1:=hb.alloc hb.size (.cells #[] 223)
 unfold cQ
 exact⟨h1.os,h1.tape,h1.output,by simpa using h1.size,fun k hk=>(Below.heap_setCell _ _ _ _ (fun e=>by simp at e;omega)).trans (h1.block k hk)⟩
theorem oR (w:World) (a:Option Addr) (cap:Nat) (X:Nat→Nat):
  Calls Tryz.prog 75 #[.slice a 0 cap] w fun e w'=> ∃v,e= .returned v∧gW w X 0 v w':=by
 have hmf: ∀(fn:Fn) (first cap:Array Value) (w:World),(Instr.makeFunc fn first cap).run Tryz.prog w= .ok (.func fn first cap) w:=fun _ _ _ _=>rfl
 have HB:Hid (Below w.heap.size w ((w.alloc (.cells #[.slice none 0 0] 49)).alloc (.cells #[.slice a 0 cap] 226))):=((Below.refl _ _).alloc (Nat.le_refl _) _).alloc (by simp) _
 have hp:((w.alloc (.cells #[.slice none 0 0] 49)).alloc (.cells #[.slice a 0 cap] 226)).cell? ⟨w.heap.size,0,none⟩=some (.slice none 0 0):=by simp[go_sem]
 have hr:((w.alloc (.cells #[.slice none 0 0] 49)).alloc (.cells #[.slice a 0 cap] 226)).cell? ⟨w.heap.size+1,0,none⟩=some (.slice a 0 cap):=by simp[go_sem]
 have hz:((w.alloc (.cells #[.slice none 0 0] 49)).alloc (.cells #[.slice a 0 cap] 226)).frozen? ⟨w.heap.size,0,none⟩=false:=by simp[go_sem]
 have HN:=aa (jo _ _ _ _ _ 1 hr (by omega) (by omega))
 have HP:=aa hp
 have HZ:=aa hz
 clear hp hr hz
 go_enter_defers Tryz.func75,Tryz.ntmps75
 go_wp2_with (go_at_call 98;refine(HN.out).mono ?_;rintro e w1 ⟨rfl,hw⟩;replace hw:=hw.symm;subst hw)
 refine leaves_cons (f:=97) (args:= #[.pointer (some ⟨w.heap.size,0,none⟩)]) (by simp) (by simp[go_sem]) ?_
 refine(aO ⟨w.heap.size,0,none⟩ _ [] _ HP.out HZ.out ⟨_,_,_,rfl⟩).mono ?_
 rintro e u' w'' ⟨rfl,rfl,hw⟩
 replace hw:w''=cQ w _:=hw
 have hcc:w''.cell? ⟨w.heap.size,0,none⟩=some (.slice none 0 0):=by rw[hw];exact a8 HP.out
 have HW:=aa hw
 clear hw
 simp[Leaves,settle,results,Tryz.results75,go_sem,hcc]
 rw[HW.out]
 exact aZ HB.out (by omega)
structure St (w wr:World) (ra:Addr) (rl rc:Nat) (v:Value):Prop where
 eI:Below w.heap.size w wr
 size:w.heap.size+2≤wr.heap.size
 rest:wr.cell? ⟨w.heap.size+1,0,none⟩=some (.slice (some ra) rl rc)
 rfz:wr.frozen? ⟨w.heap.size+1,0,none⟩=false
 pc:wr.cell? ⟨w.heap.size,0,none⟩=some v
 lM:wr.frozen? ⟨w.heap.size,0,none⟩=false
theorem kx {B:Nat} {w wr:World} (h:Below B w wr) (a:Addr) (u:Value) (ha:B≤a.block):Below B w (wr.setCell a u):=
 ⟨h.os,h.tape,h.output,by simpa using h.size,fun k hk=>(Below.heap_setCell _ _ _ _ (fun e=>by omega)).trans (h.block k hk)⟩
theorem aM (w:World) (a b:Addr) (u:Value):(w.setCell a u).frozen? b=w.frozen? b:=by simp
theorem St.lJ {w wr:World} {ra:Addr} {rl rc:Nat} {v:Value} (h:St w wr ra rl rc v) (ra':Addr) (rl' rc':Nat):St w (wr.setCell ⟨w.heap.size+1,0,none⟩ (.slice (some ra') rl' rc')) ra' rl' rc' v:=
 ⟨kx h.eI _ _ (by simp),by simpa using h.size,World.cell?_setCell_same _ _ _ h.rest,by rw[aM];exact h.rfz,
  (World.cell?_setCell_other _ _ _ _ (by intro e;simp at e)).trans h.pc,by rw[aM];exact h.lM⟩
theorem St.Ch {w wr:World} {ra:Addr} {rl rc:Nat} {v:Value} (h:St w wr ra rl rc v) (v':Value):St w (wr.setCell ⟨w.heap.size,0,none⟩ v') ra rl rc v':=
 ⟨kx h.eI _ _ (by simp),by simpa using h.size,(World.cell?_setCell_other _ _ _ _ (by intro e;simp at e)).trans h.rest,by rw[aM];exact h.rfz,
  World.cell?_setCell_same _ _ _ h.pc,by rw[aM];exact h.lM⟩
theorem St.drew {w wr:World} {ra:Addr} {rl rc:Nat} {v:Value} (h:St w wr ra rl rc v):St w wr.drew ra rl rc v:=
 ⟨⟨h.eI.os,h.eI.tape,h.eI.output,h.eI.size,h.eI.block⟩,h.size,h.rest,h.rfz,h.pc,h.lM⟩
theorem St.alloc {w wr:World} {ra:Addr} {rl rc:Nat} {v:Value} (h:St w wr ra rl rc v) (o:Obj):St w (wr.alloc o) ra rl rc v:=by
 have hs:=h.size
 have hb:=(Below.refl wr.heap.size wr).alloc (Nat.le_refl _) o
 have hf: ∀k,k<wr.heap.size→(wr.alloc o).frozen? ⟨k,0,none⟩=wr.frozen? ⟨k,0,none⟩:=fun k hk=>by
  unfold World.frozen?
  rw[Below.heap_alloc _ _ _ hk]
 exact⟨h.eI.alloc (by omega) o,by simp;omega,(hb.cell (p:=⟨w.heap.size+1,0,none⟩) (by simp;omega)).trans h.rest,(hf _ (by omega)).trans h.rfz,
  (hb.cell (p:=⟨w.heap.size,0,none⟩) (by simp;omega)).trans h.pc,(hf _ (by omega)).trans h.lM⟩
theorem St.grown {w wr w':World} {ra:Addr} {rl rc:Nat} {v:Value} {row:Option Nat} (h:St w wr ra rl rc v) (hg:wr.grownBy w' row) (hr: ∀k,row=some k→w.heap.size+2≤k):St w w' ra rl rc v:=by
 have hs:=h.size
 have hk: ∀k,k<w.heap.size+2→w'.heap[k]? =wr.heap[k]? :=fun k hk=>hg.block k (by omega) (fun e=>by have:=hr k e.symm;omega)
 have hf: ∀k,k<w.heap.size+2→w'.frozen? ⟨k,0,none⟩=wr.frozen? ⟨k,0,none⟩:=fun k hk'=>by
  unfold World.frozen?
  rw[hk k hk']
 exact⟨h.eI.grown hg (by omega) (fun k e=>by have:=hr k e;omega),Nat.le_trans hs hg.size,(World.cell?_of_block (hk (w.heap.size+1) (by omega))).trans h.rest,(hf _ (by omega)).trans h.rfz,
  (World.cell?_of_block (hk w.heap.size (by omega))).trans h.pc,(hf _ (by omega)).trans h.lM⟩
theorem gk {w:World} {base:Nat} {e:TypeId} {size:Nat} {v:Value} {n:Nat} {xs:List Value} (h:w.ownsRow base e size v n xs) (a:Addr) (u:Value) (ha:a.block<base):(w.setCell a u).ownsRow base e size v n xs:=by
 refine⟨h.1,?_⟩
 rcases h.2 with hn|⟨g,cap,cur,rfl,hb,hgg,rest⟩
 ·exact .inl hn
 ·exact .inr ⟨g,cap,cur,rfl,hb,(Below.heap_setCell _ _ _ _ (fun q=>by omega)).trans hgg,rest⟩
theorem uZ {w:World} {base base':Nat} {e:TypeId} {size:Nat} {v:Value} {n:Nat} {xs:List Value} (h:w.ownsRow base e size v n xs) (hb:base'≤base):w.ownsRow base' e size v n xs:=by
 refine⟨h.1,?_⟩
 rcases h.2 with hn|⟨g,cap,cur,rfl,hb',rest⟩
 ·exact .inl hn
 ·exact .inr ⟨g,cap,cur,rfl,by omega,rest⟩
theorem aK {P:Program} (w:World) {ops:Array Oper} {o:Oper} {a:Act} {K:Act→World→Prop} {Q:Exit→Act→World→Prop} {E:Prop} (hgd:o.guard=none) (s x:Operand) (t:TypeId)
  (ho:o.op= .call {callee:= .builtin .append,args:= #[s,x],argTypes:= #[t,t]})
  (base:Nat) (e:TypeId) (i:TypeInfo) (z:Value) (size bytes:Nat) (ht:P.underlying t=some (.slice e)) (hi:P.info? e=some i) (hz:i.zero=some z)
  (hsize:i.size=size) (hby:i.bytes=bytes) (hzs:z.cells.size=size) (hsz:0<size)
  (v:Value) (n:Nat) (xs:List Value) (hs:a.eval s=v) (hown:w.ownsRow base e size v n xs)
  (ad:Addr) (m c:Nat) (news:List Value) (hx:a.eval x= .slice (some ad) m c) (hl:news.length=m*size) (hnews: ∀j u,news[j]? =some u→w.cell? (ad.add j)=some u) (h1: ∀u∈news,u.oneCell'=true)
  (h63:n+m≤maxLen) (hbytes:(n+m)*bytes≤140737488355328) (hbase:base≤w.heap.size)
  (h: ∀v' w',w'.ownsRow base e size v' (n+m) (xs++news)→w.grownBy w' v.ownBlock→K (a.put o.dst v') w'):
  if Region.wanted o (yielded ops a.tmps)=true then Oper.wp P o a w K Q else E:=by
 have hw:Region.wanted o (yielded ops a.tmps)=true:=by simp[Region.wanted,hgd]
 rw[if_pos hw]
 exact wp_append_own w s x t ho base e i z size bytes ht hi hz hsize hby hzs hsz v n xs hs hown ad m c news hx hl hnews h1 h63 hbytes hbase fun v' w' h2 h3 _=>h v' w' h2 h3
theorem cell_two_new (w:World) (x y:Value) (t:TypeId): ∀j u,[x,y][j]? =some u→(w.alloc (.cells #[x,y] t)).cell? ((⟨w.heap.size,0,none⟩:Addr).add j)=some u:=by
 intro j u hu
 have hadd:(⟨w.heap.size,0,none⟩:Addr).add j=⟨w.heap.size,j,none⟩:=by unfold Addr.add;split<;>simp_all
 rw[hadd]
 unfold World.cell?
 simp only[(MapKept.heap_alloc w _).1]
 simpa using hu
theorem ff {w:World} {base:Nat} {e:TypeId} {size:Nat} {v:Value} {n:Nat} {xs:List Value} (h:w.ownsRow base e size v n xs): ∃a l c,v= .slice a l c:=by
 rcases h.2 with ⟨rfl,_⟩|⟨g,cap,cur,rfl,_⟩
 ·exact⟨_,_,_,rfl⟩
 ·exact⟨_,_,_,rfl⟩
def Rd (w wr:World) (X:Nat→Nat) (lb off len cap k:Nat):Prop:=
 1+4*k≤len∧ ∃ra va vl vc,St w wr ra (len-1-4*k) (cap-1-4*k) (.slice va vl vc)∧(0<len-1-4*k→ra=⟨lb,off+1+4*k,none⟩)∧wr.ownsRow (w.heap.size+2) 48 2 (.slice va vl vc) k (aR (jU X) (fO X) k)
theorem wC (w:World) (lb off len cap:Nat) (X:Nat→Nat) (hlb:lb<w.heap.size) (hl:1≤len) (hc:len≤cap) (hcap:cap<9223372036854775808)
  (hx: ∀j,j<len→w.cell? ⟨lb,off+j,none⟩=some (.int .u8 (X j:Int))∧X j<256):
  Calls Tryz.prog 75 #[.slice (some ⟨lb,off,none⟩) len cap] w fun e w'=> ∃v,e= .returned v∧gW w X len v w':=by
 have hmf: ∀(fn:Fn) (first cap:Array Value) (w:World),(Instr.makeFunc fn first cap).run Tryz.prog w= .ok (.func fn first cap) w:=fun _ _ _ _=>rfl
 have hB0:Below w.heap.size w ((w.alloc (.cells #[.slice none 0 0] 49)).alloc (.cells #[.slice (some ⟨lb,off,none⟩) len cap] 226)):=((Below.refl _ _).alloc (Nat.le_refl _) _).alloc (by simp) _
 have hS0:St w ((w.alloc (.cells #[.slice none 0 0] 49)).alloc (.cells #[.slice (some ⟨lb,off,none⟩) len cap] 226)) ⟨lb,off,none⟩ len cap (.slice none 0 0):=
  ⟨hB0,by simp,by simp[go_sem],by simp[go_sem],by simp[go_sem],by simp[go_sem]⟩
 have hX:=aa hx
 have h00:=hx 0 (by omega)
 have HN:=aa (uo _ (w.heap.size+1) lb off len cap (X 0) h00.2 hS0.rest hS0.rfz hl hc hcap ((hB0.cell (p:=⟨lb,off,none⟩) hlb).trans h00.1))
 have h00':=h00.2
 have HS0:=aa hS0
 clear hx h00 hB0 hS0
 go_enter_defers Tryz.func75,Tryz.ntmps75
 go_wp2_with (go_at_call 98;refine(HN.out).mono ?_;rintro e w1 ⟨rfl,a1,hw,ha1⟩;have HR:Hid (Rd w w1 X lb off len cap 0):=(by refine⟨by omega,a1,none,0,0,?_,fun q=>ha1 (by omega),World.ownsRow_nil _ _ _ _⟩;rw[hw];exact HS0.out.lJ a1 _ _);clear hw ha1 HN)
 clear HS0
 go_loopw [11] (fun i wr=> ∃(k:Nat),k≤X 0∧i= .int .i64 k∧Rd w wr X lb off len cap k) (fun i _=>X 0-(intOf i).toNat)
 case atStart=>exact⟨0,by omega,rfl,HR.out⟩
 case round=>
  obtain⟨k,hk,rfl,hkl,ra,va,vl,vc,hst,hra,hown⟩:=hrel
  have HST:=aa hst
  have HO:=aa hown
  have HRA:=aa hra
  clear hst hown hra HR
  by_cases hkx:k<X 0
  ·have hkx':(k:Int)<(X 0:Int):=by omega
   by_cases hL:len-1-4*k<1
   ·have HNC:=aa (jo wr _ _ _ _ 1 HST.out.rest hL (by omega))
    go_wp2_with (go_at_call 98;refine(HNC.out).mono ?_;rintro e w2 ⟨rfl,hw⟩;replace hw:=hw.symm;subst hw)
    refine leaves_cons (f:=97) (args:= #[.pointer (some ⟨w.heap.size,0,none⟩)]) (by simp) (by simp[go_sem]) ?_
    refine(aO ⟨w.heap.size,0,none⟩ _ [] _ HST.out.pc HST.out.lM ⟨_,_,_,rfl⟩).mono ?_
    rintro e u' w'' ⟨rfl,rfl,hw⟩
    replace hw:w''=cQ w _:=hw
    have hcc:w''.cell? ⟨w.heap.size,0,none⟩=some (.slice none 0 0):=by rw[hw];exact a8 HST.out.pc
    have HW:=aa hw
    clear hw
    simp[Leaves,settle,results,Tryz.results75,go_sem,hcc]
    rw[HW.out]
    exact aZ HST.out.eI (by omega)
   ·have hra:=HRA.out (by omega)
    subst hra
    have hst:=HST.out
    obtain⟨z1,z1'⟩:=hX.out (1+4*k) (by omega)
    have y1:wr.cell? ⟨lb,off+1+4*k,none⟩=some (.int .u8 (X (1+4*k):Int)):=by
     rw[show off+1+4*k=off+(1+4*k) by omega]
     exact(hst.eI.cell (p:=⟨lb,off+(1+4*k),none⟩) hlb).trans z1
    have HN1:=aa (uo wr (w.heap.size+1) lb (off+1+4*k) (len-1-4*k) (cap-1-4*k) (X (1+4*k)) z1' hst.rest hst.rfz (by omega) (by omega) (by omega) y1)
    clear y1 z1 hst
    by_cases hL3:len-1-4*k-1<3
    ·go_wp2_with (go_at_call 98;refine(HN1.out).mono ?_;rintro e w2 ⟨rfl,a2,hw,_⟩;have HS2:Hid (St w w2 a2 (len-1-4*k-1) (cap-1-4*k-1) (.slice va vl vc)):=(by rw[hw];exact HST.out.lJ _ _ _);clear hw HN1)
     clear HST HO
     have hp2:w2.drew.cell? ⟨w.heap.size,0,none⟩=some (.slice va vl vc):=HS2.out.drew.pc
     have HSD:=aa HS2.out.drew
     have HNC:=aa (jo w2.drew _ _ _ _ 3 HSD.out.rest hL3 (by omega))
     refine wp_region_held_drew (S:=fun _=>True) (by kernel_rfl) trivial (fun hHeld=> ?_)
     refine wpAnyH_ready (rs:=[0,1,2]) (by kernel_rfl) (by simp) ?_
     refine AllReadyH.cons rfl (fun K hK=> ?_) (AllReadyH.cons rfl (fun K hK=> ?_) (AllReadyH.cons rfl (fun K hK=> ?_) AllReadyH.nil))
     ·skip
      go_simp
      refine hK.out _ _ ?_ (fun hHeld=> ?_)
      ·trivial
      clear hK K
      try simp only[ao]
      refine wpAnyH_ready (rs:=[1,2]) (by kernel_rfl) (by simp) ?_
      refine AllReadyH.cons rfl (fun K hK=> ?_) (AllReadyH.cons rfl (fun K hK=> ?_) AllReadyH.nil)
      ·skip
       go_simp
       refine hK.out _ _ ?_ (fun hHeld=> ?_)
       ·trivial
       clear hK K
       try simp only[ao]
       refine bc 2 rfl (fun K hK=> ?_)
       go_simp
       refine hK.out _ _ ?_ (fun hHeld=> ?_)
       ·trivial
       clear hK K
       try simp only[ao]
       refine bc 3 rfl (fun K hK=> ?_)
       go_simp
       refine(HNC.out).mono ?_
       rintro e w3 ⟨rfl,hw⟩
       replace hw:=hw.symm
       subst hw
       dsimp only
       refine leaves_cons (f:=97) (args:= #[.pointer (some ⟨w.heap.size,0,none⟩)]) (by simp) (by simp[go_sem]) ?_
       refine(aO ⟨w.heap.size,0,none⟩ _ [] _ HSD.out.pc HSD.out.lM ⟨_,_,_,rfl⟩).mono ?_
       rintro e u' w'' ⟨rfl,rfl,hw⟩
       replace hw:w''=cQ w _:=hw
       have hcc:w''.cell? ⟨w.heap.size,0,none⟩=some (.slice none 0 0):=by rw[hw];exact a8 HSD.out.pc
       have HW:=aa hw
       clear hw
       simp[Leaves,settle,results,Tryz.results75,go_sem,hcc]
       rw[HW.out]
       exact aZ HSD.out.eI (by omega)
      ·skip
       go_simp
       refine hK.out _ _ ?_ (fun hHeld=> ?_)
       ·trivial
       clear hK K
       try simp only[ao]
       refine wpAnyH_ready (rs:=[1,3]) (by kernel_rfl) (by simp) ?_
       refine AllReadyH.cons rfl (fun K hK=> ?_) (AllReadyH.cons rfl (fun K hK=> ?_) AllReadyH.nil)
       ·skip
        go_simp
        refine hK.out _ _ ?_ (fun hHeld=> ?_)
        ·trivial
        clear hK K
        try simp only[ao]
        refine bc 3 rfl (fun K hK=> ?_)
        go_simp
        refine(HNC.out).mono ?_
        rintro e w3 ⟨rfl,hw⟩
        replace hw:=hw.symm
        subst hw
        dsimp only
        refine leaves_cons (f:=97) (args:= #[.pointer (some ⟨w.heap.size,0,none⟩)]) (by simp) (by simp[go_sem]) ?_
        refine(aO ⟨w.heap.size,0,none⟩ _ [] _ HSD.out.pc HSD.out.lM ⟨_,_,_,rfl⟩).mono ?_
        rintro e u' w'' ⟨rfl,rfl,hw⟩
        replace hw:w''=cQ w _:=hw
        have hcc:w''.cell? ⟨w.heap.size,0,none⟩=some (.slice none 0 0):=by rw[hw];exact a8 HSD.out.pc
        have HW:=aa hw
        clear hw
        simp[Leaves,settle,results,Tryz.results75,go_sem,hcc]
        rw[HW.out]
        exact aZ HSD.out.eI (by omega)
       ·skip
        go_simp
        refine(HNC.out).mono ?_
        rintro e w3 ⟨rfl,hw⟩
        replace hw:=hw.symm
        subst hw
        dsimp only
        refine leaves_cons (f:=97) (args:= #[.pointer (some ⟨w.heap.size,0,none⟩)]) (by simp) (by simp[go_sem]) ?_
        refine(aO ⟨w.heap.size,0,none⟩ _ [] _ HSD.out.pc HSD.out.lM ⟨_,_,_,rfl⟩).mono ?_
        rintro e u' w'' ⟨rfl,rfl,hw⟩
        replace hw:w''=cQ w _:=hw
        have hcc:w''.cell? ⟨w.heap.size,0,none⟩=some (.slice none 0 0):=by rw[hw];exact a8 HSD.out.pc
        have HW:=aa hw
        clear hw
        simp[Leaves,settle,results,Tryz.results75,go_sem,hcc]
        rw[HW.out]
        exact aZ HSD.out.eI (by omega)
     ·skip
      go_simp
      refine hK.out _ _ ?_ (fun hHeld=> ?_)
      ·trivial
      clear hK K
      try simp only[ao]
      refine wpAnyH_ready (rs:=[0,2]) (by kernel_rfl) (by simp) ?_
      refine AllReadyH.cons rfl (fun K hK=> ?_) (AllReadyH.cons rfl (fun K hK=> ?_) AllReadyH.nil)
      ·skip
       go_simp
       refine hK.out _ _ ?_ (fun hHeld=> ?_)
       ·trivial
       clear hK K
       try simp only[ao]
       refine bc 2 rfl (fun K hK=> ?_)
       go_simp
       refine hK.out _ _ ?_ (fun hHeld=> ?_)
       ·trivial
       clear hK K
       try simp only[ao]
       refine bc 3 rfl (fun K hK=> ?_)
       go_simp
       refine(HNC.out).mono ?_
       rintro e w3 ⟨rfl,hw⟩
       replace hw:=hw.symm
       subst hw
       dsimp only
       refine leaves_cons (f:=97) (args:= #[.pointer (some ⟨w.heap.size,0,none⟩)]) (by simp) (by simp[go_sem]) ?_
       refine(aO ⟨w.heap.size,0,none⟩ _ [] _ HSD.out.pc HSD.out.lM ⟨_,_,_,rfl⟩).mono ?_
       rintro e u' w'' ⟨rfl,rfl,hw⟩
       replace hw:w''=cQ w _:=hw
       have hcc:w''.cell? ⟨w.heap.size,0,none⟩=some (.slice none 0 0):=by rw[hw];exact a8 HSD.out.pc
       have HW:=aa hw
       clear hw
       simp[Leaves,settle,results,Tryz.results75,go_sem,hcc]
       rw[HW.out]
       exact aZ HSD.out.eI (by omega)
      ·skip
       go_simp
       refine hK.out _ _ ?_ (fun hHeld=> ?_)
       ·trivial
       clear hK K
       try simp only[ao]
       refine wpAnyH_ready (rs:=[0,3]) (by kernel_rfl) (by simp) ?_
       refine AllReadyH.cons rfl (fun K hK=> ?_) (AllReadyH.cons rfl (fun K hK=> ?_) AllReadyH.nil)
       ·skip
        go_simp
        refine hK.out _ _ ?_ (fun hHeld=> ?_)
        ·trivial
        clear hK K
        try simp only[ao]
        refine bc 3 rfl (fun K hK=> ?_)
        go_simp
        refine(HNC.out).mono ?_
        rintro e w3 ⟨rfl,hw⟩
        replace hw:=hw.symm
        subst hw
        dsimp only
        refine leaves_cons (f:=97) (args:= #[.pointer (some ⟨w.heap.size,0,none⟩)]) (by simp) (by simp[go_sem]) ?_
        refine(aO ⟨w.heap.size,0,none⟩ _ [] _ HSD.out.pc HSD.out.lM ⟨_,_,_,rfl⟩).mono ?_
        rintro e u' w'' ⟨rfl,rfl,hw⟩
        replace hw:w''=cQ w _:=hw
        have hcc:w''.cell? ⟨w.heap.size,0,none⟩=some (.slice none 0 0):=by rw[hw];exact a8 HSD.out.pc
        have HW:=aa hw
        clear hw
        simp[Leaves,settle,results,Tryz.results75,go_sem,hcc]
        rw[HW.out]
        exact aZ HSD.out.eI (by omega)
       ·skip
        go_simp
        refine(HNC.out).mono ?_
        rintro e w3 ⟨rfl,hw⟩
        replace hw:=hw.symm
        subst hw
        dsimp only
        refine leaves_cons (f:=97) (args:= #[.pointer (some ⟨w.heap.size,0,none⟩)]) (by simp) (by simp[go_sem]) ?_
        refine(aO ⟨w.heap.size,0,none⟩ _ [] _ HSD.out.pc HSD.out.lM ⟨_,_,_,rfl⟩).mono ?_
        rintro e u' w'' ⟨rfl,rfl,hw⟩
        replace hw:w''=cQ w _:=hw
        have hcc:w''.cell? ⟨w.heap.size,0,none⟩=some (.slice none 0 0):=by rw[hw];exact a8 HSD.out.pc
        have HW:=aa hw
        clear hw
        simp[Leaves,settle,results,Tryz.results75,go_sem,hcc]
        rw[HW.out]
        exact aZ HSD.out.eI (by omega)
     ·skip
      go_simp
      refine hK.out _ _ ?_ (fun hHeld=> ?_)
      ·trivial
      clear hK K
      try simp only[ao]
      refine wpAnyH_ready (rs:=[0,1,3]) (by kernel_rfl) (by simp) ?_
      refine AllReadyH.cons rfl (fun K hK=> ?_) (AllReadyH.cons rfl (fun K hK=> ?_) (AllReadyH.cons rfl (fun K hK=> ?_) AllReadyH.nil))
      ·skip
       go_simp
       refine hK.out _ _ ?_ (fun hHeld=> ?_)
       ·trivial
       clear hK K
       try simp only[ao]
       refine wpAnyH_ready (rs:=[1,3]) (by kernel_rfl) (by simp) ?_
       refine AllReadyH.cons rfl (fun K hK=> ?_) (AllReadyH.cons rfl (fun K hK=> ?_) AllReadyH.nil)
       ·skip
        go_simp
        refine hK.out _ _ ?_ (fun hHeld=> ?_)
        ·trivial
        clear hK K
        try simp only[ao]
        refine bc 3 rfl (fun K hK=> ?_)
        go_simp
        refine(HNC.out).mono ?_
        rintro e w3 ⟨rfl,hw⟩
        replace hw:=hw.symm
        subst hw
        dsimp only
        refine leaves_cons (f:=97) (args:= #[.pointer (some ⟨w.heap.size,0,none⟩)]) (by simp) (by simp[go_sem]) ?_
        refine(aO ⟨w.heap.size,0,none⟩ _ [] _ HSD.out.pc HSD.out.lM ⟨_,_,_,rfl⟩).mono ?_
        rintro e u' w'' ⟨rfl,rfl,hw⟩
        replace hw:w''=cQ w _:=hw
        have hcc:w''.cell? ⟨w.heap.size,0,none⟩=some (.slice none 0 0):=by rw[hw];exact a8 HSD.out.pc
        have HW:=aa hw
        clear hw
        simp[Leaves,settle,results,Tryz.results75,go_sem,hcc]
        rw[HW.out]
        exact aZ HSD.out.eI (by omega)
       ·skip
        go_simp
        refine(HNC.out).mono ?_
        rintro e w3 ⟨rfl,hw⟩
        replace hw:=hw.symm
        subst hw
        dsimp only
        refine leaves_cons (f:=97) (args:= #[.pointer (some ⟨w.heap.size,0,none⟩)]) (by simp) (by simp[go_sem]) ?_
        refine(aO ⟨w.heap.size,0,none⟩ _ [] _ HSD.out.pc HSD.out.lM ⟨_,_,_,rfl⟩).mono ?_
        rintro e u' w'' ⟨rfl,rfl,hw⟩
        replace hw:w''=cQ w _:=hw
        have hcc:w''.cell? ⟨w.heap.size,0,none⟩=some (.slice none 0 0):=by rw[hw];exact a8 HSD.out.pc
        have HW:=aa hw
        clear hw
        simp[Leaves,settle,results,Tryz.results75,go_sem,hcc]
        rw[HW.out]
        exact aZ HSD.out.eI (by omega)
      ·skip
       go_simp
       refine hK.out _ _ ?_ (fun hHeld=> ?_)
       ·trivial
       clear hK K
       try simp only[ao]
       refine wpAnyH_ready (rs:=[0,3]) (by kernel_rfl) (by simp) ?_
       refine AllReadyH.cons rfl (fun K hK=> ?_) (AllReadyH.cons rfl (fun K hK=> ?_) AllReadyH.nil)
       ·skip
        go_simp
        refine hK.out _ _ ?_ (fun hHeld=> ?_)
        ·trivial
        clear hK K
        try simp only[ao]
        refine bc 3 rfl (fun K hK=> ?_)
        go_simp
        refine(HNC.out).mono ?_
        rintro e w3 ⟨rfl,hw⟩
        replace hw:=hw.symm
        subst hw
        dsimp only
        refine leaves_cons (f:=97) (args:= #[.pointer (some ⟨w.heap.size,0,none⟩)]) (by simp) (by simp[go_sem]) ?_
        refine(aO ⟨w.heap.size,0,none⟩ _ [] _ HSD.out.pc HSD.out.lM ⟨_,_,_,rfl⟩).mono ?_
        rintro e u' w'' ⟨rfl,rfl,hw⟩
        replace hw:w''=cQ w _:=hw
        have hcc:w''.cell? ⟨w.heap.size,0,none⟩=some (.slice none 0 0):=by rw[hw];exact a8 HSD.out.pc
        have HW:=aa hw
        clear hw
        simp[Leaves,settle,results,Tryz.results75,go_sem,hcc]
        rw[HW.out]
        exact aZ HSD.out.eI (by omega)
       ·skip
        go_simp
        refine(HNC.out).mono ?_
        rintro e w3 ⟨rfl,hw⟩
        replace hw:=hw.symm
        subst hw
        dsimp only
        refine leaves_cons (f:=97) (args:= #[.pointer (some ⟨w.heap.size,0,none⟩)]) (by simp) (by simp[go_sem]) ?_
        refine(aO ⟨w.heap.size,0,none⟩ _ [] _ HSD.out.pc HSD.out.lM ⟨_,_,_,rfl⟩).mono ?_
        rintro e u' w'' ⟨rfl,rfl,hw⟩
        replace hw:w''=cQ w _:=hw
        have hcc:w''.cell? ⟨w.heap.size,0,none⟩=some (.slice none 0 0):=by rw[hw];exact a8 HSD.out.pc
        have HW:=aa hw
        clear hw
        simp[Leaves,settle,results,Tryz.results75,go_sem,hcc]
        rw[HW.out]
        exact aZ HSD.out.eI (by omega)
      ·skip
       go_simp
       refine(HNC.out).mono ?_
       rintro e w3 ⟨rfl,hw⟩
       replace hw:=hw.symm
       subst hw
       dsimp only
       refine leaves_cons (f:=97) (args:= #[.pointer (some ⟨w.heap.size,0,none⟩)]) (by simp) (by simp[go_sem]) ?_
       refine(aO ⟨w.heap.size,0,none⟩ _ [] _ HSD.out.pc HSD.out.lM ⟨_,_,_,rfl⟩).mono ?_
       rintro e u' w'' ⟨rfl,rfl,hw⟩
       replace hw:w''=cQ w _:=hw
       have hcc:w''.cell? ⟨w.heap.size,0,none⟩=some (.slice none 0 0):=by rw[hw];exact a8 HSD.out.pc
       have HW:=aa hw
       clear hw
       simp[Leaves,settle,results,Tryz.results75,go_sem,hcc]
       rw[HW.out]
       exact aZ HSD.out.eI (by omega)
    ·obtain⟨z2,z2'⟩:=hX.out (2+4*k) (by omega)
     obtain⟨z3,z3'⟩:=hX.out (3+4*k) (by omega)
     obtain⟨z4,z4'⟩:=hX.out (4+4*k) (by omega)
     have HN3:Hid (∀W,St w W ⟨lb,off+2+4*k,none⟩ (len-1-4*k-1) (cap-1-4*k-1) (.slice va vl vc)→W.ownsRow (w.heap.size+2) 48 2 (.slice va vl vc) k (aR (jU X) (fO X) k)→
       Calls Tryz.prog 98 #[.pointer (some ⟨w.heap.size+1,0,none⟩),.int .i64 3] W fun e W'=>e= .returned (.int .i64 (fO X k))∧ ∃a3,(0<len-1-4*(k+1)→a3=⟨lb,off+1+4*(k+1),none⟩)∧St w W' a3 (len-1-4*(k+1)) (cap-1-4*(k+1)) (.slice va vl vc)∧W'.ownsRow (w.heap.size+2) 48 2 (.slice va vl vc) k (aR (jU X) (fO X) k)):=by
      intro W hW hO
      have c2:=(hW.eI.cell (p:=⟨lb,off+(2+4*k),none⟩) hlb).trans z2
      have c3:=(hW.eI.cell (p:=⟨lb,off+(3+4*k),none⟩) hlb).trans z3
      have c4:=(hW.eI.cell (p:=⟨lb,off+(4+4*k),none⟩) hlb).trans z4
      rw[show off+(2+4*k)=off+2+4*k by omega] at c2
      rw[show off+(3+4*k)=off+2+4*k+1 by omega] at c3
      rw[show off+(4+4*k)=off+2+4*k+2 by omega] at c4
      refine(Cl W (w.heap.size+1) lb (off+2+4*k) _ _ _ _ _ z2' z3' z4' hW.rest hW.rfz (by omega) (by omega) (by omega) c2 c3 c4).mono ?_
      rintro e W' ⟨rfl,a3,rfl,ha3⟩
      refine⟨rfl,a3,fun q=>(ha3 (by omega)).trans (by rw[show off+2+4*k+3=off+1+4*(k+1) by omega]),?_,gk hO _ _ (by simp)⟩
      rw[show len-1-4*(k+1)=len-1-4*k-1-3 by omega,show cap-1-4*(k+1)=cap-1-4*k-1-3 by omega]
      exact hW.lJ a3 _ _
     clear z2 z3 z4
     go_wp2_with (go_at_call 98;refine(HN1.out).mono ?_;rintro e w2 ⟨rfl,a2,hw,ha2⟩;have HS2:Hid (St w w2 ⟨lb,off+2+4*k,none⟩ (len-1-4*k-1) (cap-1-4*k-1) (.slice va vl vc)):=(by have q:=ha2 (by omega);rw[show off+1+4*k+1=off+2+4*k by omega] at q;subst q;rw[hw];exact HST.out.lJ _ _ _);have HO2:Hid (w2.ownsRow (w.heap.size+2) 48 2 (.slice va vl vc) k (aR (jU X) (fO X) k)):=(by rw[hw];exact gk HO.out _ _ (by simp));clear hw ha2 HN1)
     clear HST HO
     obtain⟨i0,hi,hz0,hz1,hz2⟩:=info_parts tQ
     have hp2:w2.drew.cell? ⟨w.heap.size,0,none⟩=some (.slice va vl vc):=HS2.out.drew.pc
     refine wp_region_noPanic ?_
     refine wp_region_held_drew (S:=fun _=>True) (by kernel_rfl) trivial (fun hHeld=> ?_)
     refine aF 1 (v:= ?_) rfl ?v1 ?_
     case v1=>(intro w hSw;(try dsimp only at hSw);go_simp;try with_reducible rfl)
     try simp only[ao]
     refine aF 2 (v:= ?_) rfl ?v2 ?_
     case v2=>(intro w hSw;(try dsimp only at hSw);go_simp;try with_reducible rfl)
     try simp only[ao]
     refine wpAnyH_ready (rs:=[0,3]) (by kernel_rfl) (by simp) ?_
     refine AllReadyH.cons rfl (fun K hK=> ?_) (AllReadyH.cons rfl (fun K hK=> ?_) AllReadyH.nil)
     ·skip
      go_simp
      refine hK.out _ _ ?_ (fun hHeld=> ?_)
      ·trivial
      clear hK K
      try simp only[ao]
      refine bc 3 rfl (fun K hK=> ?_)
      go_simp
      refine(HN3.out _ HS2.out.drew HO2.out).mono ?_
      rintro e w3 ⟨rfl,a3,ha3,hs3,ho3⟩
      have HA3:=aa ha3
      have HS3:=aa hs3
      have HO3:=aa ho3
      have hp3:=hs3.pc
      have hp4:=(hs3.alloc (.cells #[.int .i64 (X (1+4*k):Int),.int .i64 (fO X k)] 48)).pc
      clear ha3 hs3 ho3
      dsimp only
      refine hK.out _ _ ?_ (fun hHeld=> ?_)
      ·trivial
      clear hK K
      try simp only[ao]
      refine aF 4 (v:= ?_) rfl ?v4 ?_
      case v4=>(intro w hSw;(try dsimp only at hSw);go_simp;try with_reducible rfl)
      try simp only[ao]
      refine bc 5 rfl (fun K hK=> ?_)
      go_simp
      refine hK.out _ _ ?_ (fun hHeld=> ?_)
      ·trivial
      clear hK K
      try simp only[ao]
      refine bc 6 rfl (fun K hK=> ?_)
      refine aK _ (by rfl) _ _ _ (by rfl) (w.heap.size+2) 48 i0 (.agg #[.int .i64 0,.int .i64 0]) 2 16 Tryz.underlying49 hi hz0 hz1 hz2 rfl (by omega) (.slice va vl vc) k _ (by rfl) (World.ownsRow.alloc HO3.out _) ⟨w3.heap.size,0,none⟩ 1 1 [.int .i64 (X (1+4*k):Int),.int .i64 (fO X k)] (by rfl) rfl (cell_two_new _ _ _ _) (by simp[Value.oneCell']) (by unfold maxLen;omega) (by omega) (by have:=HS3.out.size;simp;omega) ?_
      intro v1 w4 ho4 hg4
      obtain⟨va4,vl4,vc4,rfl⟩:=ff ho4
      have hs4:=(HS3.out.alloc (.cells #[.int .i64 (X (1+4*k):Int),.int .i64 (fO X k)] 48)).grown hg4 (fun q hq=>(HO3.out.lt q hq).1)
      have hp5:=hs4.pc
      have hf5:=hs4.lM
      have HRD:Hid (Rd w (w4.setCell ⟨w.heap.size,0,none⟩ (.slice va4 vl4 vc4)) X lb off len cap (k+1)):=⟨by omega,a3,va4,vl4,vc4,hs4.Ch _,HA3.out,gk ho4 _ _ (by simp)⟩
      clear ho4 hg4 hs4
      refine hK.out _ _ ?_ (fun hHeld=> ?_)
      ·trivial
      clear hK K
      try simp only[ao]
      refine bc 7 rfl (fun K hK=> ?_)
      go_simp
      refine hK.out _ _ ?_ (fun hHeld=> ?_)
      ·trivial
      clear hK K
      try simp only[ao]
      refine wpAnyH_done (by kernel_rfl) ?_ _
      refine NoPanic.normal ?_
      go_wp2
      go_roundw
      case rel=>exact⟨k+1,by omega,by go_num,HRD.out⟩
      case measure=>simp[intOf];omega
     ·skip
      go_simp
      refine(HN3.out _ HS2.out.drew HO2.out).mono ?_
      rintro e w3 ⟨rfl,a3,ha3,hs3,ho3⟩
      have HA3:=aa ha3
      have HS3:=aa hs3
      have HO3:=aa ho3
      have hp3:=hs3.pc
      have hp4:=(hs3.alloc (.cells #[.int .i64 (X (1+4*k):Int),.int .i64 (fO X k)] 48)).pc
      clear ha3 hs3 ho3
      dsimp only
      refine hK.out _ _ ?_ (fun hHeld=> ?_)
      ·trivial
      clear hK K
      try simp only[ao]
      refine aF 4 (v:= ?_) rfl ?v4 ?_
      case v4=>(intro w hSw;(try dsimp only at hSw);go_simp;try with_reducible rfl)
      try simp only[ao]
      refine wpAnyH_ready (rs:=[0,5]) (by kernel_rfl) (by simp) ?_
      refine AllReadyH.cons rfl (fun K hK=> ?_) (AllReadyH.cons rfl (fun K hK=> ?_) AllReadyH.nil)
      ·skip
       go_simp
       refine hK.out _ _ ?_ (fun hHeld=> ?_)
       ·trivial
       clear hK K
       try simp only[ao]
       refine bc 5 rfl (fun K hK=> ?_)
       go_simp
       refine hK.out _ _ ?_ (fun hHeld=> ?_)
       ·trivial
       clear hK K
       try simp only[ao]
       refine bc 6 rfl (fun K hK=> ?_)
       refine aK _ (by rfl) _ _ _ (by rfl) (w.heap.size+2) 48 i0 (.agg #[.int .i64 0,.int .i64 0]) 2 16 Tryz.underlying49 hi hz0 hz1 hz2 rfl (by omega) (.slice va vl vc) k _ (by rfl) (World.ownsRow.alloc HO3.out _) ⟨w3.heap.size,0,none⟩ 1 1 [.int .i64 (X (1+4*k):Int),.int .i64 (fO X k)] (by rfl) rfl (cell_two_new _ _ _ _) (by simp[Value.oneCell']) (by unfold maxLen;omega) (by omega) (by have:=HS3.out.size;simp;omega) ?_
       intro v1 w4 ho4 hg4
       obtain⟨va4,vl4,vc4,rfl⟩:=ff ho4
       have hs4:=(HS3.out.alloc (.cells #[.int .i64 (X (1+4*k):Int),.int .i64 (fO X k)] 48)).grown hg4 (fun q hq=>(HO3.out.lt q hq).1)
       have hp5:=hs4.pc
       have hf5:=hs4.lM
       have HRD:Hid (Rd w (w4.setCell ⟨w.heap.size,0,none⟩ (.slice va4 vl4 vc4)) X lb off len cap (k+1)):=⟨by omega,a3,va4,vl4,vc4,hs4.Ch _,HA3.out,gk ho4 _ _ (by simp)⟩
       clear ho4 hg4 hs4
       refine hK.out _ _ ?_ (fun hHeld=> ?_)
       ·trivial
       clear hK K
       try simp only[ao]
       refine bc 7 rfl (fun K hK=> ?_)
       go_simp
       refine hK.out _ _ ?_ (fun hHeld=> ?_)
       ·trivial
       clear hK K
       try simp only[ao]
       refine wpAnyH_done (by kernel_rfl) ?_ _
       refine NoPanic.normal ?_
       go_wp2
       go_roundw
       case rel=>exact⟨k+1,by omega,by go_num,HRD.out⟩
       case measure=>simp[intOf];omega
      ·skip
       go_simp
       refine hK.out _ _ ?_ (fun hHeld=> ?_)
       ·trivial
       clear hK K
       try simp only[ao]
       refine bc 0 rfl (fun K hK=> ?_)
       go_simp
       refine hK.out _ _ ?_ (fun hHeld=> ?_)
       ·trivial
       clear hK K
       try simp only[ao]
       refine bc 6 rfl (fun K hK=> ?_)
       refine aK _ (by rfl) _ _ _ (by rfl) (w.heap.size+2) 48 i0 (.agg #[.int .i64 0,.int .i64 0]) 2 16 Tryz.underlying49 hi hz0 hz1 hz2 rfl (by omega) (.slice va vl vc) k _ (by rfl) (World.ownsRow.alloc HO3.out _) ⟨w3.heap.size,0,none⟩ 1 1 [.int .i64 (X (1+4*k):Int),.int .i64 (fO X k)] (by rfl) rfl (cell_two_new _ _ _ _) (by simp[Value.oneCell']) (by unfold maxLen;omega) (by omega) (by have:=HS3.out.size;simp;omega) ?_
       intro v1 w4 ho4 hg4
       obtain⟨va4,vl4,vc4,rfl⟩:=ff ho4
       have hs4:=(HS3.out.alloc (.cells #[.int .i64 (X (1+4*k):Int),.int .i64 (fO X k)] 48)).grown hg4 (fun q hq=>(HO3.out.lt q hq).1)
       have hp5:=hs4.pc
       have hf5:=hs4.lM
       have HRD:Hid (Rd w (w4.setCell ⟨w.heap.size,0,none⟩ (.slice va4 vl4 vc4)) X lb off len cap (k+1)):=⟨by omega,a3,va4,vl4,vc4,hs4.Ch _,HA3.out,gk ho4 _ _ (by simp)⟩
       clear ho4 hg4 hs4
       refine hK.out _ _ ?_ (fun hHeld=> ?_)
       ·trivial
       clear hK K
       try simp only[ao]
       refine bc 7 rfl (fun K hK=> ?_)
       go_simp
       refine hK.out _ _ ?_ (fun hHeld=> ?_)
       ·trivial
       clear hK K
       try simp only[ao]
       refine wpAnyH_done (by kernel_rfl) ?_ _
       refine NoPanic.normal ?_
       go_wp2
       go_roundw
       case rel=>exact⟨k+1,by omega,by go_num,HRD.out⟩
       case measure=>simp[intOf];omega
  ·have hkx': ¬(k:Int)<(X 0:Int):=by omega
   obtain rfl:k=X 0:=by omega
   by_cases hL:0<len-1-4*X 0
   ·have HEM:=aa (yf wr _ _ _ _ hL HST.out.rest)
    go_wp2_with (go_at_call 99;refine(HEM.out).mono ?_;rintro e w2 ⟨rfl,hw⟩;replace hw:=hw.symm;subst hw)
    refine leaves_cons (f:=97) (args:= #[.pointer (some ⟨w.heap.size,0,none⟩)]) (by simp) (by simp[go_sem]) ?_
    refine(aO ⟨w.heap.size,0,none⟩ _ [] _ HST.out.pc HST.out.lM ⟨_,_,_,rfl⟩).mono ?_
    rintro e u' w'' ⟨rfl,rfl,hw⟩
    replace hw:w''=cQ w _:=hw
    have hcc:w''.cell? ⟨w.heap.size,0,none⟩=some (.slice none 0 0):=by rw[hw];exact a8 HST.out.pc
    have HW:=aa hw
    clear hw
    simp[Leaves,settle,results,Tryz.results75,go_sem,hcc]
    rw[HW.out]
    exact aZ HST.out.eI (by omega)
   ·have hre:=HST.out.rest
    rw[show len-1-4*X 0=0 by omega] at hre
    have HE:=aa (EB wr _ _ _ hre)
    have hpc:=HST.out.pc
    have hpf:=HST.out.lM
    have HPost:Hid (gW w X len (.slice va vl vc) (wr.setCell ⟨w.heap.size,0,none⟩ (.slice va vl vc))):=
     ⟨(HST.out.Ch _).eI,.inl ⟨by omega,uZ (gk HO.out _ _ (by simp)) (by omega)⟩⟩
    clear hre
    go_wp2_with (go_at_call 99;refine(HE.out).mono ?_;rintro e w2 ⟨rfl,hw⟩;replace hw:=hw.symm;subst hw)
    refine leaves_cons (f:=97) (args:= #[.pointer (some ⟨w.heap.size,0,none⟩)]) (by simp) (by simp[go_sem]) ?_
    refine(ud ⟨w.heap.size,0,none⟩ _).mono ?_
    rintro e u' w'' ⟨rfl,rfl,rfl⟩
    have hcc:(wr.setCell ⟨w.heap.size,0,none⟩ (.slice va vl vc)).cell? ⟨w.heap.size,0,none⟩=some (.slice va vl vc):=World.cell?_setCell_same _ _ _ hpc
    simp[Leaves,settle,results,Tryz.results75,go_sem,hcc]
    exact HPost.out
theorem lN (w:World) (a:Option Addr) (len cap:Nat) (X:Nat→Nat) (hb:FR w a len X) (hc:len≤cap) (hcap:cap<9223372036854775808):
  Calls Tryz.prog 75 #[.slice a len cap] w fun e w'=> ∃v,e= .returned v∧gW w X len v w':=by
 rcases hb with rfl|⟨lb,off,rfl,hlb,hx⟩
 ·exact oR w a cap X
 ·by_cases h0:len=0
  ·subst h0
   exact oR w _ cap X
  ·exact wC w lb off len cap X hlb (by omega) hc hcap hx
theorem B7 (O R:Nat→Int): ¬Rt 0 O R:=fun ⟨y,h⟩=>by
 have:=h.zero.1
 omega
theorem sk (w:World) (a:Option Addr) (len cap:Nat) (X:Nat→Nat) (hb:FR w a len X) (hc:len≤cap) (hcap:cap<9223372036854775808) (hne:len≠1+4*X 0):
  Calls Tryz.prog 51 #[.slice a len cap] w fun e w'=>e= .returned (.tuple #[.slice none 0 0,.int .i64 3])∧Below w.heap.size w w':=by
 have HR:=aa (lN w a len cap X hb hc hcap)
 have HN:=aa (fun w1=>jL w1 none 0 0 (by omega) (fun _=>0) (fun _=>0) (.inl rfl) (B7 _ _))
 have HE:=aa hne
 clear hb hne
 go_enter Tryz.func51,Tryz.ntmps51
 go_wp2_with (first
  |(go_at_call 75;refine(HR.out).mono ?_;rintro e w1 ⟨v,rfl,hb,hv⟩;obtain rfl:v= .slice none 0 0:=(by rcases hv with ⟨q,_⟩|⟨_,q⟩;exact absurd q HE.out;exact q);have HB:=aa hb;clear hb hv)
  |(go_at_call 65;refine(HN.out _).mono ?_;rintro e w2 ⟨rfl,hb,_⟩;have HB2:=aa (HB.out.trans (hb.mono HB.out.size));clear hb))
 go_ret2
 exact⟨rfl,HB2.out⟩
def dw (ys:List Nat):List Value:=ys.map fun (x:Nat)=> .int .u8 (x:Int)
theorem Bh {w:World} {base:Nat} {v:Value} {ys:List Nat} (h:w.ownsRow base 5 1 v ys.length (dw ys)) (h1:0<ys.length) (h2: ∀y∈ys,y<256):
  ∃g cap,v= .slice (some ⟨g,0,none⟩) ys.length cap∧ys.length≤cap∧cap≤maxLen∧base≤g∧g<w.heap.size∧ ∀j,j<ys.length→w.cell? ⟨g,0+j,none⟩=some (.int .u8 ((ys.getD j 0:Nat):Int))∧ys.getD j 0<256:=by
 rcases h.2 with ⟨_,h0⟩|⟨g,cap,cur,rfl,hb,hgg,hn,hm,hc,ht⟩
 ·omega
 ·refine⟨g,cap,rfl,hn,hm,hb,(Array.getElem?_eq_some_iff.1 hgg).1,fun j hj=> ?_⟩
  have hz:(cur.toList.take (ys.length*1))[j]? =some (.int .u8 ((ys.getD j 0:Nat):Int)):=by
   rw[ht]
   unfold dw
   rw[List.getElem?_map,List.getElem?_eq_getElem hj]
   simp[List.getD,List.getElem?_eq_getElem hj]
  rw[List.getElem?_take_of_lt (by omega)] at hz
  refine⟨?_,?_⟩
  ·unfold World.cell?
   simp only[hgg]
   simpa using hz
  ·have:ys.getD j 0∈ys:=by simp[List.getD,List.getElem?_eq_getElem hj]
   exact h2 _ this
theorem jy {w:World} {base:Nat} {v:Value} {k:Nat} {O R:Nat→Int} (h:w.ownsRow base 48 2 v k (aR O R k)): ∃a cap,v= .slice a k cap∧nJ w a k O R:=by
 cases k with
 |zero=>
  rcases h.2 with ⟨rfl,_⟩|⟨g,cap,cur,rfl,_⟩
  ·exact⟨_,_,rfl,.inl rfl⟩
  ·exact⟨_,_,rfl,.inl rfl⟩
 |succ k=>exact Cn h
theorem EZ (w:World) (a:Option Addr) (len cap:Nat) (X:Nat→Nat) (hb:FR w a len X) (hc:len≤cap) (hcap:cap<9223372036854775808) (hx:X 0<256) (he:len=1+4*X 0) (hr:Rt (X 0) (jU X) (fO X)):
  Calls Tryz.prog 51 #[.slice a len cap] w fun e w'=> ∃a' cap',e= .returned (.tuple #[.slice a' (X 0) cap',.int .i64 0])∧nJ w' a' (X 0) (jU X) (fO X)∧Below w.heap.size w w':=by
 have HR:=aa (lN w a len cap X hb hc hcap)
 have HN:=aa (fun w1 a1 cap1 hp=>iy w1 a1 (X 0) cap1 (by omega) (jU X) (fO X) hp hr)
 have HE:=aa he
 clear hb he hr
 go_enter Tryz.func51,Tryz.ntmps51
 go_wp2_with (first
  |(go_at_call 75;refine(HR.out).mono ?_;rintro e w1 ⟨v,rfl,hb,hv⟩;have hv2:w1.ownsRow w.heap.size 48 2 v (X 0) (aR (jU X) (fO X) (X 0)):=(by rcases hv with ⟨_,q⟩|⟨q,_⟩;exact q;exact absurd HE.out q);obtain⟨a1,cap1,rfl,hp1⟩:=jy hv2;have HP1:=aa hp1;have HB:=aa hb;clear hb hv hv2 hp1)
  |(go_at_call 65;refine(HN.out _ _ _ HP1.out).mono ?_;rintro e w2 ⟨rfl,hb⟩;have HB2:=aa (HB.out.trans (hb.mono HB.out.size));have HP2:=aa (HP1.out.below hb);clear hb))
 go_ret2
 exact⟨_,_,rfl,HP2.out,HB2.out⟩
theorem pZ (w:World) (a:Option Addr) (len cap:Nat) (X:Nat→Nat) (hb:FR w a len X) (hc:len≤cap) (hcap:cap<9223372036854775808) (hx:X 0<256) (he:len=1+4*X 0) (hr: ¬Rt (X 0) (jU X) (fO X)):
  Calls Tryz.prog 51 #[.slice a len cap] w fun e w'=>e= .returned (.tuple #[.slice none 0 0,.int .i64 3])∧Below w.heap.size w w':=by
 have HR:=aa (lN w a len cap X hb hc hcap)
 have HN:=aa (fun w1 a1 cap1 hp=>jL w1 a1 (X 0) cap1 (by omega) (jU X) (fO X) hp hr)
 have HE:=aa he
 clear hb he hr
 go_enter Tryz.func51,Tryz.ntmps51
 go_wp2_with (first
  |(go_at_call 75;refine(HR.out).mono ?_;rintro e w1 ⟨v,rfl,hb,hv⟩;have hv2:w1.ownsRow w.heap.size 48 2 v (X 0) (aR (jU X) (fO X) (X 0)):=(by rcases hv with ⟨_,q⟩|⟨q,_⟩;exact q;exact absurd HE.out q);obtain⟨a1,cap1,rfl,hp1⟩:=jy hv2;have HP1:=aa hp1;have HB:=aa hb;clear hb hv hv2 hp1)
  |(go_at_call 65;refine(HN.out _ _ _ HP1.out).mono ?_;rintro e w2 ⟨rfl,hb,_⟩;have HB2:=aa (HB.out.trans (hb.mono HB.out.size));clear hb))
 go_ret2
 exact⟨rfl,HB2.out⟩
def eV (len:Nat) (O R:Nat→Int):Nat→List Nat
 |0=>[len]
 |k+1=>eV len O R k++[(O k).toNat,(R k).toNat/65536%256,(R k).toNat/256%256,(R k).toNat%256]
theorem bx (len:Nat) (O R:Nat→Int): ∀k,(eV len O R k).length=1+4*k
 |0=>rfl
 |k+1=>by simp[eV,bx len O R k];omega
theorem nE {len:Nat} {O R:Nat→Int}: ∀k,(∀i,i<k→0≤O i)→enc len O R k=dw (eV len O R k)
 |0,_=>rfl
 |k+1,h=>by
  have h1:=h k (by omega)
  simp only[enc,eV,nE k (fun i hi=>h i (by omega)),a6,dw,List.map_append,List.map_cons,List.map_nil,List.append_assoc,List.cons_append,List.nil_append,Int.toNat_of_nonneg h1]
theorem mz (len:Nat) (O R:Nat→Int): ∀k,(eV len O R k).getD 0 0=len
 |0=>rfl
 |k+1=>by
  have h:=mz len O R k
  simp only[eV]
  unfold List.getD at h⊢
  rw[List.getElem?_append_left (by rw[bx];omega)]
  exact h
theorem vB (len:Nat) (O R:Nat→Int): ∀k i,i<k→(eV len O R k).getD (1+4*i) 0=(O i).toNat∧(eV len O R k).getD (2+4*i) 0=(R i).toNat/65536%256∧(eV len O R k).getD (3+4*i) 0=(R i).toNat/256%256∧(eV len O R k).getD (4+4*i) 0=(R i).toNat%256
 |k+1,i,h=>by
  by_cases q:i=k
  ·subst q
   simp only[eV]
   unfold List.getD
   rw[List.getElem?_append_right (by rw[bx];omega),List.getElem?_append_right (by rw[bx];omega),List.getElem?_append_right (by rw[bx];omega),List.getElem?_append_right (by rw[bx];omega),bx]
   rw[show 1+4*i-(1+4*i)=0 by omega,show 2+4*i-(1+4*i)=1 by omega,show 3+4*i-(1+4*i)=2 by omega,show 4+4*i-(1+4*i)=3 by omega]
   exact⟨rfl,rfl,rfl,rfl⟩
  ·have:=vB len O R k i (by omega)
   simp only[eV]
   unfold List.getD at this⊢
   rw[List.getElem?_append_left (by rw[bx];omega),List.getElem?_append_left (by rw[bx];omega),List.getElem?_append_left (by rw[bx];omega),List.getElem?_append_left (by rw[bx];omega)]
   exact this
theorem mL {len:Nat} {O R:Nat→Int} (hl:len≤64): ∀k,(∀i,i<k→O i≤9)→ ∀y∈eV len O R k,y<256
 |0,_=>by simp[eV];omega
 |k+1,h=>by
  intro y hy
  have h1:=h k (by omega)
  simp only[eV,List.mem_append,List.mem_cons,List.not_mem_nil,or_false] at hy
  rcases hy with hy|rfl|rfl|rfl|rfl
  ·exact mL hl k (fun i hi=>h i (by omega)) y hy
  ·omega
  ·omega
  ·omega
  ·omega
theorem D4 {len:Nat} {O R:Nat→Int} {i:Nat} (h:i<len) (ho:0≤O i) (h0:0≤R i) (h1:R i≤65536):jU (fun j=>(eV len O R len).getD j 0) i=O i∧fO (fun j=>(eV len O R len).getD j 0) i=R i:=by
 obtain⟨q1,q2,q3,q4⟩:=vB len O R len i h
 simp only[jU,fO,q1,q2,q3,q4]
 omega
theorem zo {X:Nat→Nat}: ∀k,(∀j,j<1+4*k→X j<256)→enc (X 0) (jU X) (fO X) k=dw ((List.range (1+4*k)).map X)
 |0,_=>by simp[enc,dw,List.range_succ]
 |k+1,h=>by
  have e:=zo k (fun j hj=>h j (by omega))
  have a2:=h (2+4*k) (by omega)
  have a3:=h (3+4*k) (by omega)
  have a4:=h (4+4*k) (by omega)
  have e2:a6 ((fO X k).toNat/65536)=Value.int .u8 (X (2+4*k):Int):=by simp only[a6,fO,Int.toNat_natCast];congr 1;omega
  have e3:a6 ((fO X k).toNat/256)=Value.int .u8 (X (3+4*k):Int):=by simp only[a6,fO,Int.toNat_natCast];congr 1;omega
  have e4:a6 (fO X k).toNat=Value.int .u8 (X (4+4*k):Int):=by simp only[a6,fO,Int.toNat_natCast];congr 1;omega
  rw[show 1+4*(k+1)=(1+4*k)+4 by omega,List.range_add]
  simp only[enc,e,e2,e3,e4,jU,dw,List.map_append,List.append_assoc]
  congr 1
  simp only[show List.range 4=[0,1,2,3] from rfl,List.map_cons,List.map_nil,List.cons_append,List.nil_append]
  rw[show 1+4*k+0=1+4*k by omega,show 1+4*k+1=2+4*k by omega,show 1+4*k+2=3+4*k by omega,show 1+4*k+3=4+4*k by omega]
theorem cF {w w':World} {base:Nat} {e:TypeId} {size:Nat} {v:Value} {n:Nat} {xs:List Value} (h:w.ownsRow base e size v n xs) (hb:Below w.heap.size w w'):w'.ownsRow base e size v n xs:=by
 refine⟨h.1,?_⟩
 rcases h.2 with hn|⟨g,cap,cur,rfl,hb',hgg,rest⟩
 ·exact .inl hn
 ·exact .inr ⟨g,cap,cur,rfl,hb',(hb.block g (Array.getElem?_eq_some_iff.1 hgg).1).trans hgg,rest⟩
theorem ve (w:World) (base:Nat) (hb:base≤w.heap.size) (v:Value) (t:TypeId):(w.alloc (.cells #[v] t)).ownsRow base t 1 (.slice (some ⟨w.heap.size,0,none⟩) 1 1) 1 [v]:=
 ⟨rfl,.inr ⟨w.heap.size,1,#[v],rfl,hb,(MapKept.heap_alloc w _).1,Nat.le_refl _,by unfold maxLen;omega,rfl,rfl⟩⟩
theorem rv (z:Int):IntKind.u8.wrap z=z%256:=by
 unfold IntKind.wrap
 simp[IntKind.bits,IntKind.signed]
theorem fP {w w':World} {base:Nat} {e:TypeId} {size:Nat} {v:Value} {n:Nat} {xs:List Value} (h:w.ownsRow base e size v n xs) (hh:w'.heap=w.heap):w'.ownsRow base e size v n xs:=by
 refine⟨h.1,?_⟩
 rcases h.2 with hn|⟨g,cap,cur,rfl,hb,hgg,rest⟩
 ·exact .inl hn
 ·exact .inr ⟨g,cap,cur,rfl,hb,by rw[hh];exact hgg,rest⟩
theorem xj {w1 W:World} {c:List Value} {t:TypeId} (h:W.heap=(w1.alloc (.cells c.toArray t)).heap): ∀j u,c[j]? =some u→W.cell? ((⟨w1.heap.size,0,none⟩:Addr).add j)=some u:=by
 intro j u hu
 have hb:W.heap[w1.heap.size]? =some (.cells c.toArray t):=by rw[h];exact(MapKept.heap_alloc w1 _).1
 exact World.news_of_block (cs:=c.toArray) hb j u (by simpa using hu)
theorem tL {w wr:World} {e:TypeId} {size n:Nat} {v:Value} {xs:List Value} {lb k1 k2:Nat} {u1 u2:Value} (hown:wr.ownsRow w.heap.size e size v n xs) (hbel:Below w.heap.size w wr) (hlb:lb<w.heap.size) (y1:wr.cell? ⟨lb,k1,none⟩=some u1) (y2:wr.cell? ⟨lb,k2,none⟩=some u2):
  ∀(W w2:World) (o:Obj),W.grownBy w2 v.ownBlock→W.heap=(wr.alloc o).heap→W.os=wr.os→W.tape=wr.tape→W.output=wr.output→w2.cell? ⟨lb,k1,none⟩=some u1∧w2.cell? ⟨lb,k2,none⟩=some u2∧Below w.heap.size w w2:=by
 intro W w2 o hg hW h1 h2 h3
 have hb1:Below w.heap.size w W:=by
  have q:=hbel.alloc hbel.size o
  exact⟨h1.trans q.os,h2.trans q.tape,h3.trans q.output,by rw[hW];exact q.size,fun k hk=>by rw[hW];exact q.block k hk⟩
 have hb2:Below w.heap.size w w2:=hb1.grown hg hb1.size (fun k hk=>(hown.lt k hk).1)
 exact⟨(hb2.cell (p:=⟨lb,k1,none⟩) hlb).trans ((hbel.cell (p:=⟨lb,k1,none⟩) hlb).symm.trans y1),(hb2.cell (p:=⟨lb,k2,none⟩) hlb).trans ((hbel.cell (p:=⟨lb,k2,none⟩) hlb).symm.trans y2),hb2⟩
theorem qF (w:World) (a:Option Addr) (len cap:Nat) (hlen:len<9223372036854775808) (O R:Nat→Int) (hp:nJ w a len O R) (hr:Rt len O R):
  Calls Tryz.prog 70 #[.slice a len cap] w fun e w'=> ∃v:Value,e= .returned (.tuple #[v,.int .i64 0])∧w'.ownsRow w.heap.size 5 1 v (1+4*len) (enc len O R len)∧Below w.heap.size w w':=by
 have HP:=aa hp
 have HC:=aa (sc w a len cap hlen O R hp hr)
 obtain⟨y0,hy0⟩:=hr
 obtain⟨hl1,hl2,hall,_,_⟩:=hy0.zero
 have HA:=aa hall
 clear hp hy0 hall
 have hl3:(len:Int)%256=(len:Int):=by omega
 go_enter Tryz.func70,Tryz.ntmps70
 go_wp2_with (first
  |(go_at_call 68;refine(HC.out).mono ?_;rintro e w1 ⟨rfl,hb⟩;have HL:=aa hb;clear hb))
 go_loopw [6,7] (fun s i wr=> ∃(j:Nat),j≤len∧i= .int .i64 j∧wr.ownsRow w.heap.size 5 1 s (1+4*j) (enc len O R j)∧Below w.heap.size w wr) (fun _ i _=>len-(intOf i).toNat)
 case atStart=>exact⟨0,by omega,rfl,ve _ _ HL.out.size _ _,HL.out.alloc HL.out.size _⟩
 case round=>
  obtain⟨j,hj,rfl,hown,hbel⟩:=hrel
  by_cases hjl:j<len
  ·have hjl':(j:Int)<(len:Int):=by omega
   obtain⟨b1,b2,b3,b4⟩:=nr (by omega) (HA.out j hjl)
   obtain⟨o,ho⟩: ∃o:Nat,O j=(o:Int):=⟨(O j).toNat,by omega⟩
   obtain⟨r,hr⟩: ∃r:Nat,R j=(r:Int):=⟨(R j).toNat,by omega⟩
   rcases HP.out with h0|⟨lb,off,rfl,hlb,hc⟩
   ·omega
   ·obtain⟨z1,z2⟩:=hc j hjl
    have y1:=(hbel.cell (p:=⟨lb,off+j*2,none⟩) hlb).trans z1
    have y2:=(hbel.cell (p:=⟨lb,off+j*2+1,none⟩) hlb).trans z2
    have HE:Hid (enc len O R (j+1)=enc len O R j++[.int .u8 (o:Int),.int .u8 ((r:Int)/65536),.int .u8 ((r:Int)/256%256),.int .u8 ((r:Int)%256)]):=by
     show enc len O R (j+1)=_
     have e1:Value.int .u8 ((r:Int)/65536)=a6 (r/65536):=by unfold a6;congr 1;omega
     have e2:Value.int .u8 ((r:Int)/256%256)=a6 (r/256):=by unfold a6;congr 1
     have e3:Value.int .u8 ((r:Int)%256)=a6 r:=by unfold a6;congr 1
     rw[e1,e2,e3]
     simp only[enc,ho,hr,Int.toNat_natCast,List.append_assoc]
     rfl
    rw[ho] at y1
    rw[hr] at y2
    have ho1:o<256:=by omega
    have hr1:r<16777216:=by omega
    have hsz:=hbel.size
    have w1':IntKind.u8.wrap (o:Int)=(o:Int):=by rw[rv];omega
    have w2':IntKind.u8.wrap ((r:Int)/65536)=(r:Int)/65536:=by rw[rv];omega
    have w3':IntKind.u8.wrap ((r:Int)/256)=(r:Int)/256%256:=rv _
    have w4':IntKind.u8.wrap (r:Int)=(r:Int)%256:=rv _
    have HK:=aa (tL hown hbel hlb y1 y2)
    have HOW:=aa (fun (W:World) (ob:Obj) (hW:W.heap=(wr.alloc ob).heap)=>fP (hown.alloc ob) hW)
    have HNW:=aa (fun (W:World) (hW:W.heap=(wr.alloc (.cells #[.int .u8 (o:Int),.int .u8 ((r:Int)/65536),.int .u8 ((r:Int)/256%256),.int .u8 ((r:Int)%256)] 5)).heap)=>xj (c:=[.int .u8 (o:Int),.int .u8 ((r:Int)/65536),.int .u8 ((r:Int)/256%256),.int .u8 ((r:Int)%256)]) hW)
    obtain⟨i0,hi,hz0,hz1,hz2⟩:=info_parts fA
    have HB:=aa hbel
    clear hown hbel hc z1 z2 ho hr b1 b2 b3 b4
    go_wp2
    refine wp_region_held_drew (S:=(fun w'=>w'.cell? ⟨lb,off+j*2,none⟩=some (.int .i64 (o:Int))∧w'.cell? ⟨lb,off+j*2+1,none⟩=some (.int .i64 (r:Int)))) (by kernel_rfl) ?_ (fun hHeld=> ?_)
    ·exact⟨y1,y2⟩
    refine aF 0 (v:= ?_) rfl ?v0 ?_
    case v0=>(intro w hSw;(try dsimp only at hSw);go_simp;try with_reducible rfl)
    try simp only[ao]
    refine aF 1 (v:= ?_) rfl ?v1 ?_
    case v1=>(intro w hSw;(try dsimp only at hSw);go_simp;try with_reducible rfl)
    try simp only[ao]
    refine aF 2 (v:= ?_) rfl ?v2 ?_
    case v2=>(intro w hSw;(try dsimp only at hSw);go_simp;try with_reducible rfl)
    try simp only[ao]
    refine aF 3 (v:= ?_) rfl ?v3 ?_
    case v3=>(intro w hSw;(try dsimp only at hSw);go_simp;try with_reducible rfl)
    try simp only[ao]
    refine aF 4 (v:= ?_) rfl ?v4 ?_
    case v4=>(intro w hSw;(try dsimp only at hSw);go_simp;try with_reducible rfl)
    try simp only[ao]
    refine aF 5 (v:= ?_) rfl ?v5 ?_
    case v5=>(intro w hSw;(try dsimp only at hSw);go_simp;try with_reducible rfl)
    try simp only[ao]
    refine aF 6 (v:= ?_) rfl ?v6 ?_
    case v6=>(intro w hSw;(try dsimp only at hSw);go_simp;try with_reducible rfl)
    try simp only[ao]
    refine aF 7 (v:= ?_) rfl ?v7 ?_
    case v7=>(intro w hSw;(try dsimp only at hSw);go_simp;try with_reducible rfl)
    try simp only[ao]
    refine aF 8 (v:= ?_) rfl ?v8 ?_
    case v8=>(intro w hSw;(try dsimp only at hSw);go_simp;try with_reducible rfl)
    try simp only[ao]
    refine aF 9 (v:= ?_) rfl ?v9 ?_
    case v9=>(intro w hSw;(try dsimp only at hSw);go_simp;try with_reducible rfl)
    try simp only[ao]
    refine aF 10 (v:= ?_) rfl ?v10 ?_
    case v10=>(intro w hSw;(try dsimp only at hSw);go_simp;try with_reducible rfl)
    try simp only[ao]
    refine aF 11 (v:= ?_) rfl ?v11 ?_
    case v11=>(intro w hSw;(try dsimp only at hSw);go_simp;try with_reducible rfl)
    try simp only[ao]
    refine aF 12 (v:= ?_) rfl ?v12 ?_
    case v12=>(intro w hSw;(try dsimp only at hSw);go_simp;try with_reducible rfl)
    try simp only[ao]
    refine aF 13 (v:= ?_) rfl ?v13 ?_
    case v13=>(intro w hSw;(try dsimp only at hSw);go_simp;try with_reducible rfl)
    try simp only[ao]
    refine aF 14 (v:= ?_) rfl ?v14 ?_
    case v14=>(intro w hSw;(try dsimp only at hSw);go_simp;try with_reducible rfl)
    try simp only[ao]
    refine aF 15 (v:= ?_) rfl ?v15 ?_
    case v15=>(intro w hSw;(try dsimp only at hSw);go_simp;try with_reducible rfl)
    try simp only[ao]
    refine aF 16 (v:= ?_) rfl ?v16 ?_
    case v16=>(intro w hSw;(try dsimp only at hSw);go_simp;try with_reducible rfl)
    try simp only[ao]
    refine aF 17 (v:= ?_) rfl ?v17 ?_
    case v17=>(intro w hSw;(try dsimp only at hSw);go_simp;try with_reducible rfl)
    try simp only[ao]
    refine aF 18 (v:= ?_) rfl ?v18 ?_
    case v18=>(intro w hSw;(try dsimp only at hSw);go_simp;try with_reducible rfl)
    try simp only[ao]
    refine aF 19 (v:= ?_) rfl ?v19 ?_
    case v19=>(intro w hSw;(try dsimp only at hSw);go_simp;try with_reducible rfl)
    try simp only[ao]
    refine aF 20 (v:= ?_) rfl ?v20 ?_
    case v20=>(intro w hSw;(try dsimp only at hSw);go_simp;try with_reducible rfl)
    try simp only[ao]
    refine aF 21 (v:= ?_) rfl ?v21 ?_
    case v21=>(intro w hSw;(try dsimp only at hSw);go_simp;try with_reducible rfl)
    try simp only[ao]
    refine aF 22 (v:= ?_) rfl ?v22 ?_
    case v22=>(intro w hSw;(try dsimp only at hSw);go_simp;try with_reducible rfl)
    try simp only[ao]
    refine aF 23 (v:= ?_) rfl ?v23 ?_
    case v23=>(intro w hSw;(try dsimp only at hSw);go_simp;try with_reducible rfl)
    try simp only[ao]
    refine aF 24 (v:= ?_) rfl ?v24 ?_
    case v24=>(intro w hSw;(try dsimp only at hSw);go_simp;try with_reducible rfl)
    try simp only[ao]
    refine aF 25 (v:= ?_) rfl ?v25 ?_
    case v25=>(intro w hSw;(try dsimp only at hSw);go_simp;try with_reducible rfl)
    try simp only[ao]
    refine aF 26 (v:= ?_) rfl ?v26 ?_
    case v26=>(intro w hSw;(try dsimp only at hSw);go_simp;try with_reducible rfl)
    try simp only[ao]
    refine bc 27 rfl (fun K hK=> ?_)
    go_simp
    refine hK.out _ _ ?_ (fun hHeld=> ?_)
    ·go_keep
    clear hK K
    try simp only[ao]
    refine bc 28 rfl (fun K hK=> ?_)
    refine aK _ (by rfl) _ _ _ (by rfl) w.heap.size 5 i0 (.int .u8 0) 1 1 Tryz.underlying43 hi hz0 hz1 hz2 rfl (by decide) u6 (1+4*j) (enc len O R j) (by rfl) (HOW.out _ (.cells #[.int .u8 (o:Int),.int .u8 ((r:Int)/65536),.int .u8 ((r:Int)/256%256),.int .u8 ((r:Int)%256)] 5) rfl) ⟨wr.heap.size,0,none⟩ 4 4 [.int .u8 (o:Int),.int .u8 ((r:Int)/65536),.int .u8 ((r:Int)/256%256),.int .u8 ((r:Int)%256)] (by rfl) rfl (HNW.out _ rfl) (by simp[Value.oneCell']) (by unfold maxLen;omega) (by omega) (by simp;omega) ?_
    intro v2 w2 ho2 hg2
    obtain⟨hx1,hx2,hb2⟩:=HK.out _ _ (.cells #[.int .u8 (o:Int),.int .u8 ((r:Int)/65536),.int .u8 ((r:Int)/256%256),.int .u8 ((r:Int)%256)] 5) hg2 rfl rfl rfl rfl
    have HO2:=aa ho2
    have HB2:=aa hb2
    clear ho2 hg2 hb2
    refine hK.out _ _ ?_ (fun hHeld=> ?_)
    ·exact⟨hx1,hx2⟩
    clear hK K
    try simp only[ao]
    refine aF 29 (v:= ?_) rfl ?v29 ?_
    case v29=>(intro w hSw;(try dsimp only at hSw);go_simp;try with_reducible rfl)
    try simp only[ao]
    refine wpAnyH_done (by kernel_rfl) ?_ _
    go_wp2
    go_roundw
    case rel=>
     refine⟨j+1,by omega,by go_num,?_,HB2.out⟩
     rw[HE.out]
     exact HO2.out
    case measure=>simp[intOf];omega
  ·have hjl': ¬(j:Int)<(len:Int):=by omega
   obtain rfl:j=len:=by omega
   have HO:=aa hown
   have HB:=aa hbel
   clear hown hbel
   go_wp2
   go_ret2
   exact⟨_,rfl,HO.out,HB.out⟩
end Go.Proofs.YtdbailcdlngemaaGreatDoor.Ex
namespace Go.Proofs.YtdbailcdlngemaaGreatDoor.Bq
open Go.RowKit
def qN (a b:Int):Int:=if 18446744073709551615<a+b then 18446744073709551615 else a+b
theorem G2 (a b:Int) (w:World) (a0:0≤a) (a1:a≤18446744073709551615) (b0:0≤b) (b1:b≤18446744073709551615):
  Calls Tryz.prog 87 #[.int .u64 a,.int .u64 b] w fun e w'=>e= .returned (.int .u64 (qN a b))∧w'=w:=by
 unfold qN
 by_cases h:18446744073709551615<a+b
 ·rw[if_pos h]
  have h':18446744073709551615-b<a:=by omega
  go_enter Tryz.func87,Tryz.ntmps87
  go_wp2
  go_ret
  exact⟨rfl,rfl⟩
 ·rw[if_neg h]
  have h': ¬18446744073709551615-b<a:=by omega
  go_enter Tryz.func87,Tryz.ntmps87
  go_wp2
  go_ret
  exact⟨rfl,rfl⟩
end Go.Proofs.YtdbailcdlngemaaGreatDoor.Bq
namespace Go.Proofs.YtdbailcdlngemaaGreatDoor.Bq
open Go.RowKit Go.Lib
def Hi (a b:Int):Int:=a*b/18446744073709551616
def Hs (a b:Int):Int:=a*b%18446744073709551616
theorem zN (z:Int):bits .and .u64 (z%18446744073709551616) 4294967295=z%18446744073709551616%4294967296:=
 and_low32 _ (by omega) (by omega)
theorem vQ (a b:Int) (w:World) (a0:0≤a) (a1:a≤18446744073709551615) (b0:0≤b) (b1:b≤18446744073709551615):
  Calls Tryz.prog 74 #[.int .u64 a,.int .u64 b] w fun e w'=>e= .returned (.tuple #[.int .u64 (Hi a b),.int .u64 (Hs a b)])∧w'=w:=by
 have HH:Hid (_=a*b/18446744073709551616):=mul64_arith a b a0 (by omega) b0 (by omega)
 go_enter Tryz.func74,Tryz.ntmps74
 go_wp2
 simp only[IntKind.wrap_u64,and_low32 a a0 (by omega),and_low32 b b0 (by omega),zN]
 rw[HH.out]
 go_ret2
 exact⟨rfl,rfl⟩
theorem Ck (i:Nat) (h:i<Lib.len8tab.size):((Lib.len8tab[i]).toNat:Int)=(Lib.bitLen i:Int):=by
 have h':i<256:=by rw[Lib.len8tab_size] at h;exact h
 have e:=Lib.len8_eq ⟨i,h'⟩
 simp only[Lib.len8,Int.toNat_natCast,ByteArray.getElem?_lt' _ _ h,Option.getD_some] at e
 exact e
theorem gC {a:Int} (h: -9223372036854775808≤a) (h':a<9223372036854775808):wrap64 a=a:=by
 unfold wrap64;omega
theorem gA (x y:Int) (kk:Int) (h:Lib.bitLen y.toNat≤8) (k0:0≤kk) (k1:kk≤56) (e:(Lib.bitLen x.toNat:Int)=kk+(Lib.bitLen y.toNat:Int)):
  wrap64 (kk+wrap64 (Lib.bitLen y.toNat:Int))=(Lib.bitLen x.toNat:Int):=by
 rw[gC (a:=(Lib.bitLen y.toNat:Int)) (by omega) (by omega),gC (by omega) (by omega),e]
theorem iF (x:Int) (w:World) (h0:0≤x) (h1:x≤18446744073709551615):
  Calls Tryz.prog 212 #[.int .u64 x] w fun e w'=>e= .returned (.int .i64 (Lib.bitLen x.toNat))∧w'=w:=by
 have hsz:Lib.len8tab.size=256:=Lib.len8tab_size
 go_enter Tryz.func212,Tryz.ntmps212
 go_wp2
 all_goals (go_ret;refine⟨congrArg Ending.returned (congrArg (Value.int IntKind.i64) ?_),rfl⟩)
 all_goals rw[Ck _ (by omega)]
 ·have s:=Lib.bitLen_shift56 x.toNat (by omega) (by omega)
  have e:(x/4294967296/65536/256).toNat=x.toNat/72057594037927936:=by omega
  exact gA x _ 56 (Lib.bitLen_le8' (x/4294967296/65536/256) (by omega) (by omega)) (by decide) (by decide) (by rw[e];omega)
 ·have s:=Lib.bitLen_shift48 x.toNat (by omega) (by omega)
  have e:(x/4294967296/65536).toNat=x.toNat/281474976710656:=by omega
  exact gA x _ 48 (Lib.bitLen_le8' (x/4294967296/65536) (by omega) (by omega)) (by decide) (by decide) (by rw[e];omega)
 ·have s:=Lib.bitLen_shift40 x.toNat (by omega) (by omega)
  have e:(x/4294967296/256).toNat=x.toNat/1099511627776:=by omega
  exact gA x _ 40 (Lib.bitLen_le8' (x/4294967296/256) (by omega) (by omega)) (by decide) (by decide) (by rw[e];omega)
 ·have s:=Lib.bitLen_shift32 x.toNat (by omega) (by omega)
  have e:(x/4294967296).toNat=x.toNat/4294967296:=by omega
  exact gA x _ 32 (Lib.bitLen_le8' (x/4294967296) (by omega) (by omega)) (by decide) (by decide) (by rw[e];omega)
 ·have s:=Lib.bitLen_shift24 x.toNat (by omega) (by omega)
  have e:(x/65536/256).toNat=x.toNat/16777216:=by omega
  exact gA x _ 24 (Lib.bitLen_le8' (x/65536/256) (by omega) (by omega)) (by decide) (by decide) (by rw[e];omega)
 ·have s:=Lib.bitLen_shift16 x.toNat (by omega) (by omega)
  have e:(x/65536).toNat=x.toNat/65536:=by omega
  exact gA x _ 16 (Lib.bitLen_le8' (x/65536) (by omega) (by omega)) (by decide) (by decide) (by rw[e];omega)
 ·have s:=Lib.bitLen_shift8 x.toNat (by omega) (by omega)
  have e:(x/256).toNat=x.toNat/256:=by omega
  exact gA x _ 8 (Lib.bitLen_le8' (x/256) (by omega) (by omega)) (by decide) (by decide) (by rw[e];omega)
 ·have:=Lib.bitLen_le8' x h0 (by omega)
  have e:wrap64 (Lib.bitLen x.toNat:Int)=(Lib.bitLen x.toNat:Int):=gC (by omega) (by omega)
  rw[e,e]
@[go_sem] theorem FP (w : World) : (Instr.build 217 #[]).run Tryz.prog w = .ok (.agg #[.int .u64 0, .int .u64 0, .int .u64 0, .int .u64 0]) w := run_build w 217 _ _ (by kernel_rfl)
@[go_sem] theorem FN (a : Int) (w : World) : (Instr.build 217 #[(0, .int .u64 a)]).run Tryz.prog w = .ok (.agg #[.int .u64 a, .int .u64 0, .int .u64 0, .int .u64 0]) w := run_build w 217 _ _ (by kernel_rfl)
@[go_sem] theorem Il (a b c d a' b' c' d' : Int) (w : World) : (Op.equalIn 10000 217 (.agg #[.int .u64 a, .int .u64 b, .int .u64 c, .int .u64 d]) (.agg #[.int .u64 a', .int .u64 b', .int .u64 c', .int .u64 d'])).run Tryz.prog w = .ok (a == a' && b == b' && c == c' && d == d') w := by
 have u3:=Tryz.underlying39
 have a3:=Tryz.isAgg39
 have z3:=Tryz.sizeOf39
 rw[show(10000:Nat)=9999+1 from rfl,Op.equalIn]
 simp only[Sem.run_bind,run_underlying Tryz.underlying217,Result.andThen_ok]
 simp only[Std.Legacy.Range.forIn_eq_forIn_range',Std.Legacy.Range.size,Nat.sub_zero,Nat.add_sub_cancel,Nat.div_one,List.range'_succ,List.range'_zero,List.forIn_cons,List.forIn_nil]
 go_simp
 by_cases h1:a=a'<;>by_cases h2:b=b'<;>by_cases h3:c=c'<;>by_cases h4:d=d'<;>simp[h1,h2,h3,h4]
def eK (x:Int) (at_:Int) (old:Int):Int:=if x=0 then old else at_+Lib.bitLen x.toNat-1
def bZ (w0 w1 w2 w3:Int) (k:Nat):Int:=
 match k with
 |0=>0
 |1=>eK w0 0 0
 |2=>eK w1 64 (eK w0 0 0)
 |3=>eK w2 128 (eK w1 64 (eK w0 0 0))
 |_=>eK w3 192 (eK w2 128 (eK w1 64 (eK w0 0 0)))
def du (w0 w1 w2 w3:Int):Int:=if w0=0∧w1=0∧w2=0∧w3=0 then-1 else bZ w0 w1 w2 w3 4
theorem dj (x:Int) (h0:0≤x) (h1:x≤18446744073709551615):0≤(Lib.bitLen x.toNat:Int)∧(Lib.bitLen x.toNat:Int)≤64:=by
 have:=Lib.bitLen_le x.toNat 64 (by omega) (by simp;omega)
 omega
def nK (x:Int):Prop:=0≤x∧x≤18446744073709551615
theorem pf (w:World):
  Calls Tryz.prog 213 #[.agg #[.int .u64 0,.int .u64 0,.int .u64 0,.int .u64 0]] w fun e w'=>e= .returned (.int .i64 (-1))∧ ∃c:Array Value,w'=w.alloc (.cells c 217):=by
 go_enter Tryz.func213,Tryz.ntmps213
 go_wp2
 go_ret
 exact⟨rfl,_,rfl⟩
theorem pL (w0 w1 w2 w3:Int) (w:World) (b0:nK w0) (b1:nK w1) (b2:nK w2) (b3:nK w3) (hn: ¬(w0=0∧w1=0∧w2=0∧w3=0)):
  Calls Tryz.prog 213 #[.agg #[.int .u64 w0,.int .u64 w1,.int .u64 w2,.int .u64 w3]] w fun e w'=>e= .returned (.int .i64 (bZ w0 w1 w2 w3 4))∧ ∃c:Array Value,w'=w.alloc (.cells c 217):=by
 obtain⟨b00,b01⟩:=b0;obtain⟨b10,b11⟩:=b1;obtain⟨b20,b21⟩:=b2;obtain⟨b30,b31⟩:=b3
 have hd:(w0==0&&w1==0&&w2==0&&w3==0)=false:=by
  by_cases h0:w0=0<;>by_cases h1:w1=0<;>by_cases h2:w2=0<;>by_cases h3:w3=0<;>simp_all
 clear hn
 go_enter Tryz.func213,Tryz.ntmps213
 go_wp2
 clear hd
 go_loop [3,8] (fun h i=> ∃k:Nat,k≤4∧i= .int .i64 k∧h= .int .i64 (bZ w0 w1 w2 w3 k)) (fun _ i=>4-(intOf i).toNat)
 case atStart=>exact⟨0,by omega,rfl,rfl⟩
 case round=>
  obtain⟨k,hk,rfl,rfl⟩:=hrel
  have hc:k=0∨k=1∨k=2∨k=3∨k=4:=by omega
  rcases hc with rfl|rfl|rfl|rfl|rfl
  ·have hl:=dj w0 b00 b01
   by_cases hz:w0=0
   ·have hz':(w0==0)=true:=by simp[hz]
    have HR:Hid (bZ w0 w1 w2 w3 0=bZ w0 w1 w2 w3 1):=by
     show _=_
     simp[bZ,eK,hz]
    clear hz
    go_wp2
    go_round
    case rel=>exact⟨1,by omega,rfl,by rw[HR.out]⟩
    case measure=>simp[intOf]
   ·have hz':(w0==0)=false:=by simp[hz]
    have HR:Hid (bZ w0 w1 w2 w3 1=0+(Lib.bitLen w0.toNat:Int)-1):=by
     show _=_
     simp[bZ,eK,hz]
    clear hz
    go_wp2_with (go_at_call 212;refine(iF w0 _ b00 b01).mono ?_;rintro e w' ⟨rfl,rfl⟩)
    go_round
    case rel=>exact⟨1,by omega,rfl,by rw[HR.out];go_num⟩
    case measure=>simp[intOf]
  ·have hl:=dj w1 b10 b11
   by_cases hz:w1=0
   ·have hz':(w1==0)=true:=by simp[hz]
    have HR:Hid (bZ w0 w1 w2 w3 1=bZ w0 w1 w2 w3 2):=by
     show _=_
     simp[bZ,eK,hz]
    clear hz
    go_wp2
    go_round
    case rel=>exact⟨2,by omega,rfl,by rw[HR.out]⟩
    case measure=>simp[intOf]
   ·have hz':(w1==0)=false:=by simp[hz]
    have HR:Hid (bZ w0 w1 w2 w3 2=64+(Lib.bitLen w1.toNat:Int)-1):=by
     show _=_
     simp[bZ,eK,hz]
    clear hz
    go_wp2_with (go_at_call 212;refine(iF w1 _ b10 b11).mono ?_;rintro e w' ⟨rfl,rfl⟩)
    go_round
    case rel=>exact⟨2,by omega,rfl,by rw[HR.out]⟩
    case measure=>simp[intOf]
  ·have hl:=dj w2 b20 b21
   by_cases hz:w2=0
   ·have hz':(w2==0)=true:=by simp[hz]
    have HR:Hid (bZ w0 w1 w2 w3 2=bZ w0 w1 w2 w3 3):=by
     show _=_
     simp[bZ,eK,hz]
    clear hz
    go_wp2
    go_round
    case rel=>exact⟨3,by omega,rfl,by rw[HR.out]⟩
    case measure=>simp[intOf]
   ·have hz':(w2==0)=false:=by simp[hz]
    have HR:Hid (bZ w0 w1 w2 w3 3=128+(Lib.bitLen w2.toNat:Int)-1):=by
     show _=_
     simp[bZ,eK,hz]
    clear hz
    go_wp2_with (go_at_call 212;refine(iF w2 _ b20 b21).mono ?_;rintro e w' ⟨rfl,rfl⟩)
    go_round
    case rel=>exact⟨3,by omega,rfl,by rw[HR.out]⟩
    case measure=>simp[intOf]
  ·have hl:=dj w3 b30 b31
   by_cases hz:w3=0
   ·have hz':(w3==0)=true:=by simp[hz]
    have HR:Hid (bZ w0 w1 w2 w3 3=bZ w0 w1 w2 w3 4):=by
     show _=_
     simp[bZ,eK,hz]
    clear hz
    go_wp2
    go_round
    case rel=>exact⟨4,by omega,rfl,by rw[HR.out]⟩
    case measure=>simp[intOf]
   ·have hz':(w3==0)=false:=by simp[hz]
    have HR:Hid (bZ w0 w1 w2 w3 4=192+(Lib.bitLen w3.toNat:Int)-1):=by
     show _=_
     simp[bZ,eK,hz]
    clear hz
    go_wp2_with (go_at_call 212;refine(iF w3 _ b30 b31).mono ?_;rintro e w' ⟨rfl,rfl⟩)
    go_round
    case rel=>exact⟨4,by omega,rfl,by rw[HR.out]⟩
    case measure=>simp[intOf]
  ·go_wp2
   go_ret
   exact⟨rfl,_,rfl⟩
theorem lp (w0 w1 w2 w3:Int) (w:World) (b0:nK w0) (b1:nK w1) (b2:nK w2) (b3:nK w3):
  Calls Tryz.prog 213 #[.agg #[.int .u64 w0,.int .u64 w1,.int .u64 w2,.int .u64 w3]] w fun e w'=>e= .returned (.int .i64 (du w0 w1 w2 w3))∧ ∃c:Array Value,w'=w.alloc (.cells c 217):=by
 unfold du
 by_cases h:w0=0∧w1=0∧w2=0∧w3=0
 ·rw[if_pos h];obtain⟨rfl,rfl,rfl,rfl⟩:=h;exact pf w
 ·rw[if_neg h];exact pL w0 w1 w2 w3 w b0 b1 b2 b3 h
theorem tX: ∀(n x:Nat),x<2^n→n≤64→x≠0→2^(Lib.bitLen x-1)≤x∧x<2^(Lib.bitLen x)∧1≤Lib.bitLen x
 |0,x,h,_,h0=>by simp at h;omega
 |n+1,x,h,hn,h0=>by
  have hx:x<2^64:=Nat.lt_of_lt_of_le h (Nat.pow_le_pow_right (by decide) hn)
  have e:=Lib.bitLen_half x h0 hx
  by_cases h1:x/2=0
  ·have hx1:x=1:=by omega
   subst hx1
   decide
  ·obtain⟨a,b,c⟩:=tX n (x/2) (by rw[Nat.pow_succ] at h;omega) (by omega) h1
   rw[e]
   obtain⟨L,hL⟩: ∃L,Lib.bitLen (x/2)=L+1:=⟨Lib.bitLen (x/2)-1,by omega⟩
   rw[hL] at a b⊢
   simp only[Nat.add_sub_cancel] at a
   have e1:1+(L+1)-1=L+1:=by omega
   have e2:1+(L+1)=L+1+1:=by omega
   rw[e1,e2,Nat.pow_succ,Nat.pow_succ,Nat.pow_succ] at*
   generalize 2^L=Q at*
   omega
theorem bl (x:Int) (h:nK x) (h0:x≠0):2^(Lib.bitLen x.toNat-1)≤x.toNat∧x.toNat<2^(Lib.bitLen x.toNat)∧1≤Lib.bitLen x.toNat:=by
 obtain⟨l,m⟩:=h
 exact tX 64 x.toNat (by simp;omega) (by omega) (by omega)
theorem nD (w0 w1 w2 w3:Int):du w0 w1 w2 w3=if w0=0∧w1=0∧w2=0∧w3=0 then-1 else eK w3 192 (eK w2 128 (eK w1 64 (eK w0 0 0))):=rfl
theorem DY (w0 w1 w2 w3:Int) (b0:nK w0) (b1:nK w1) (b2:nK w2) (b3:nK w3): -1≤du w0 w1 w2 w3∧du w0 w1 w2 w3≤255:=by
 have l0:=dj w0 b0.1 b0.2;have l1:=dj w1 b1.1 b1.2;have l2:=dj w2 b2.1 b2.2;have l3:=dj w3 b3.1 b3.2
 rw[nD]
 unfold eK
 split
 ·omega
 ·(repeat' split)<;>omega
theorem Ge (w0 w1 w2 w3:Int) (b0:nK w0) (b1:nK w1) (b2:nK w2) (b3:nK w3):(w0≠0→0+(Lib.bitLen w0.toNat:Int)-1≤du w0 w1 w2 w3)∧(w1≠0→64+(Lib.bitLen w1.toNat:Int)-1≤du w0 w1 w2 w3)∧(w2≠0→128+(Lib.bitLen w2.toNat:Int)-1≤du w0 w1 w2 w3)∧(w3≠0→192+(Lib.bitLen w3.toNat:Int)-1≤du w0 w1 w2 w3):=by
 have l0:=dj w0 b0.1 b0.2;have l1:=dj w1 b1.1 b1.2;have l2:=dj w2 b2.1 b2.2;have l3:=dj w3 b3.1 b3.2
 have k0:w0≠0→1≤(Lib.bitLen w0.toNat:Int):=fun h=>by have:=(bl w0 b0 h).2.2;omega
 have k1:w1≠0→1≤(Lib.bitLen w1.toNat:Int):=fun h=>by have:=(bl w1 b1 h).2.2;omega
 have k2:w2≠0→1≤(Lib.bitLen w2.toNat:Int):=fun h=>by have:=(bl w2 b2 h).2.2;omega
 have k3:w3≠0→1≤(Lib.bitLen w3.toNat:Int):=fun h=>by have:=(bl w3 b3 h).2.2;omega
 rw[nD]
 unfold eK
 split
 ·omega
 ·(repeat' split)<;>omega
theorem Gz (w0 w1 w2 w3:Int) (b0:nK w0) (b1:nK w1) (b2:nK w2) (b3:nK w3) (m:Int) (m0:0≤m) (m1:m<64):(du w0 w1 w2 w3=0+m→w0≠0∧(Lib.bitLen w0.toNat:Int)-1=m)∧(du w0 w1 w2 w3=64+m→w1≠0∧(Lib.bitLen w1.toNat:Int)-1=m)∧(du w0 w1 w2 w3=128+m→w2≠0∧(Lib.bitLen w2.toNat:Int)-1=m)∧(du w0 w1 w2 w3=192+m→w3≠0∧(Lib.bitLen w3.toNat:Int)-1=m):=by
 have l0:=dj w0 b0.1 b0.2;have l1:=dj w1 b1.1 b1.2;have l2:=dj w2 b2.1 b2.2;have l3:=dj w3 b3.1 b3.2
 have k0:w0≠0→1≤(Lib.bitLen w0.toNat:Int):=fun h=>by have:=(bl w0 b0 h).2.2;omega
 have k1:w1≠0→1≤(Lib.bitLen w1.toNat:Int):=fun h=>by have:=(bl w1 b1 h).2.2;omega
 have k2:w2≠0→1≤(Lib.bitLen w2.toNat:Int):=fun h=>by have:=(bl w2 b2 h).2.2;omega
 have k3:w3≠0→1≤(Lib.bitLen w3.toNat:Int):=fun h=>by have:=(bl w3 b3 h).2.2;omega
 rw[nD]
 unfold eK
 split
 ·omega
 ·(repeat' split)<;>omega
end Go.Proofs.YtdbailcdlngemaaGreatDoor.Bq
namespace Go.Proofs.YtdbailcdlngemaaGreatDoor.Bq
open Go.RowKit
def ax {α:Type} (f:Nat→α) (i:Nat) (x:α):Nat→α:=fun j=>if j=i then x else f j
theorem aj {α:Type} (f:Nat→α) (i:Nat) (x:α):ax f i x i=x:=by simp[ax]
theorem ai {α:Type} (f:Nat→α) (i:Nat) (x:α) (j:Nat) (h:j≠i):ax f i x j=f j:=by simp[ax,h]
structure aJ (w:World) (b g n:Nat) (F L:Nat→Nat) (M:Nat→Int) (c:Nat) (A B V:Nat→Nat) (T:Nat→Bool):Prop where
 bg:b≠g
 fst: ∀i,i<256→w.cell? ⟨b,i,none⟩=some (.int .i64 (F i))
 lst: ∀i,i<256→w.cell? ⟨b,256+i,none⟩=some (.int .i64 (L i))
 msk: ∀i,i<4→w.cell? ⟨b,512+i,none⟩=some (.int .u64 (M i))
 sl: ∃cp,w.cell? ⟨b,516,none⟩=some (.slice (some ⟨g,0,none⟩) (n+1) cp)
 cn:w.cell? ⟨b,517,none⟩=some (.int .i64 c)
 la: ∀s,s≤n→w.cell? ⟨g,s*4,none⟩=some (.int .i64 (A s))
 lb: ∀s,s≤n→w.cell? ⟨g,s*4+1,none⟩=some (.int .i64 (B s))
 lv: ∀s,s≤n→w.cell? ⟨g,s*4+2,none⟩=some (.int .u8 (V s))
 lt: ∀s,s≤n→w.cell? ⟨g,s*4+3,none⟩=some (.bool (T s))
 fb: ∀o,w.frozen? ⟨b,o,none⟩=false
 fg: ∀o,w.frozen? ⟨g,o,none⟩=false
theorem au (w:World) (a:Addr) (x u:Value) (h:w.cell? a=some u):(w.setCell a x).cell? a=some x:=World.cell?_setCell_same _ _ _ h
theorem ab (w:World) (b o b' o':Nat) (x:Value) (h: ¬(b=b'∧o=o')):(w.setCell ⟨b,o,none⟩ x).cell? ⟨b',o',none⟩=w.cell? ⟨b',o',none⟩:=
 World.cell?_setCell_other _ _ _ _ (by intro e;simp only[Addr.mk.injEq,and_true] at e;exact h e)
section
variable {w:World} {b g n:Nat} {F L:Nat→Nat} {M:Nat→Int} {c:Nat} {A B V:Nat→Nat} {T:Nat→Bool}
theorem aJ.drew (h:aJ w b g n F L M c A B V T):aJ w.drew b g n F L M c A B V T:=⟨h.bg,h.fst,h.lst,h.msk,h.sl,h.cn,h.la,h.lb,h.lv,h.lt,h.fb,h.fg⟩
theorem aJ.eF (h:aJ w b g n F L M c A B V T):b<w.heap.size:=World.block_lt_of_cell? w ⟨b,517,none⟩ h.cn
theorem aJ.eW (h:aJ w b g n F L M c A B V T):g<w.heap.size:=World.block_lt_of_cell? w ⟨g,0*4,none⟩ (h.la 0 (Nat.zero_le _))
theorem aJ.kept {w':World} (h:aJ w b g n F L M c A B V T) (hb:w'.heap[b]? =w.heap[b]?) (hg:w'.heap[g]? =w.heap[g]?):aJ w' b g n F L M c A B V T:=by
 have eb: ∀o,w'.cell? ⟨b,o,none⟩=w.cell? ⟨b,o,none⟩:=fun o=>by simp only[World.cell?,hb]
 have eg: ∀o,w'.cell? ⟨g,o,none⟩=w.cell? ⟨g,o,none⟩:=fun o=>by simp only[World.cell?,hg]
 have ib: ∀o,w'.frozen? ⟨b,o,none⟩=w.frozen? ⟨b,o,none⟩:=fun o=>by simp only[World.frozen?,hb]
 have ig: ∀o,w'.frozen? ⟨g,o,none⟩=w.frozen? ⟨g,o,none⟩:=fun o=>by simp only[World.frozen?,hg]
 exact⟨h.bg,fun i hi=>by rw[eb];exact h.fst i hi,fun i hi=>by rw[eb];exact h.lst i hi,fun i hi=>by rw[eb];exact h.msk i hi,by simp only[eb];exact h.sl,by rw[eb];exact h.cn,
  fun s hs=>by rw[eg];exact h.la s hs,fun s hs=>by rw[eg];exact h.lb s hs,fun s hs=>by rw[eg];exact h.lv s hs,fun s hs=>by rw[eg];exact h.lt s hs,fun o=>by rw[ib];exact h.fb o,fun o=>by rw[ig];exact h.fg o⟩
theorem aJ.alloc (h:aJ w b g n F L M c A B V T) (o:Obj):aJ (w.alloc o) b g n F L M c A B V T:=
 h.kept (Below.heap_alloc w o b h.eF) (Below.heap_alloc w o g h.eW)
theorem aJ.gU (h:aJ w b g n F L M c A B V T) (k:Nat) (hk:k<256) (x:Nat):aJ (w.setCell ⟨b,k,none⟩ (.int .i64 (x:Int))) b g n (ax F k x) L M c A B V T:=
 ⟨h.bg,fun i hi=>by
  by_cases e:i=k
  ·subst e;rw[aj];exact au _ _ _ _ (h.fst i hi)
  ·rw[ai _ _ _ _ e,ab _ _ _ _ _ _ (by omega)];exact h.fst i hi,fun i hi=>by
  rw[ab _ _ _ _ _ _ (by omega)];exact h.lst i hi,fun i hi=>by
  rw[ab _ _ _ _ _ _ (by omega)];exact h.msk i hi,by
  obtain⟨cp,q⟩:=h.sl;exact⟨cp,by rw[ab _ _ _ _ _ _ (by omega)];exact q⟩,by
  rw[ab _ _ _ _ _ _ (by omega)];exact h.cn,fun s hs=>by
  rw[ab _ _ _ _ _ _ (by have:=h.bg;omega)];exact h.la s hs,fun s hs=>by
  rw[ab _ _ _ _ _ _ (by have:=h.bg;omega)];exact h.lb s hs,fun s hs=>by
  rw[ab _ _ _ _ _ _ (by have:=h.bg;omega)];exact h.lv s hs,fun s hs=>by
  rw[ab _ _ _ _ _ _ (by have:=h.bg;omega)];exact h.lt s hs,
  fun o=>by simpa using h.fb o,fun o=>by simpa using h.fg o⟩
theorem aJ.BS (h:aJ w b g n F L M c A B V T) (k:Nat) (hk:k<256) (x:Nat):aJ (w.setCell ⟨b,256+k,none⟩ (.int .i64 (x:Int))) b g n F (ax L k x) M c A B V T:=
 ⟨h.bg,fun i hi=>by
  rw[ab _ _ _ _ _ _ (by omega)];exact h.fst i hi,fun i hi=>by
  by_cases e:i=k
  ·subst e;rw[aj];exact au _ _ _ _ (h.lst i hi)
  ·rw[ai _ _ _ _ e,ab _ _ _ _ _ _ (by omega)];exact h.lst i hi,fun i hi=>by
  rw[ab _ _ _ _ _ _ (by omega)];exact h.msk i hi,by
  obtain⟨cp,q⟩:=h.sl;exact⟨cp,by rw[ab _ _ _ _ _ _ (by omega)];exact q⟩,by
  rw[ab _ _ _ _ _ _ (by omega)];exact h.cn,fun s hs=>by
  rw[ab _ _ _ _ _ _ (by have:=h.bg;omega)];exact h.la s hs,fun s hs=>by
  rw[ab _ _ _ _ _ _ (by have:=h.bg;omega)];exact h.lb s hs,fun s hs=>by
  rw[ab _ _ _ _ _ _ (by have:=h.bg;omega)];exact h.lv s hs,fun s hs=>by
  rw[ab _ _ _ _ _ _ (by have:=h.bg;omega)];exact h.lt s hs,
  fun o=>by simpa using h.fb o,fun o=>by simpa using h.fg o⟩
theorem aJ.FV (h:aJ w b g n F L M c A B V T) (k:Nat) (hk:k<4) (x:Int):aJ (w.setCell ⟨b,512+k,none⟩ (.int .u64 x)) b g n F L (ax M k x) c A B V T:=
 ⟨h.bg,fun i hi=>by
  rw[ab _ _ _ _ _ _ (by omega)];exact h.fst i hi,fun i hi=>by
  rw[ab _ _ _ _ _ _ (by omega)];exact h.lst i hi,fun i hi=>by
  by_cases e:i=k
  ·subst e;rw[aj];exact au _ _ _ _ (h.msk i hi)
  ·rw[ai _ _ _ _ e,ab _ _ _ _ _ _ (by omega)];exact h.msk i hi,by
  obtain⟨cp,q⟩:=h.sl;exact⟨cp,by rw[ab _ _ _ _ _ _ (by omega)];exact q⟩,by
  rw[ab _ _ _ _ _ _ (by omega)];exact h.cn,fun s hs=>by
  rw[ab _ _ _ _ _ _ (by have:=h.bg;omega)];exact h.la s hs,fun s hs=>by
  rw[ab _ _ _ _ _ _ (by have:=h.bg;omega)];exact h.lb s hs,fun s hs=>by
  rw[ab _ _ _ _ _ _ (by have:=h.bg;omega)];exact h.lv s hs,fun s hs=>by
  rw[ab _ _ _ _ _ _ (by have:=h.bg;omega)];exact h.lt s hs,
  fun o=>by simpa using h.fb o,fun o=>by simpa using h.fg o⟩
theorem aJ.iU (h:aJ w b g n F L M c A B V T) (x:Nat):aJ (w.setCell ⟨b,517,none⟩ (.int .i64 (x:Int))) b g n F L M x A B V T:=
 ⟨h.bg,fun i hi=>by
  rw[ab _ _ _ _ _ _ (by omega)];exact h.fst i hi,fun i hi=>by
  rw[ab _ _ _ _ _ _ (by omega)];exact h.lst i hi,fun i hi=>by
  rw[ab _ _ _ _ _ _ (by omega)];exact h.msk i hi,by
  obtain⟨cp,q⟩:=h.sl;exact⟨cp,by rw[ab _ _ _ _ _ _ (by omega)];exact q⟩,au _ _ _ _ h.cn,fun s hs=>by
  rw[ab _ _ _ _ _ _ (by have:=h.bg;omega)];exact h.la s hs,fun s hs=>by
  rw[ab _ _ _ _ _ _ (by have:=h.bg;omega)];exact h.lb s hs,fun s hs=>by
  rw[ab _ _ _ _ _ _ (by have:=h.bg;omega)];exact h.lv s hs,fun s hs=>by
  rw[ab _ _ _ _ _ _ (by have:=h.bg;omega)];exact h.lt s hs,
  fun o=>by simpa using h.fb o,fun o=>by simpa using h.fg o⟩
theorem aJ.gi (h:aJ w b g n F L M c A B V T) (k:Nat) (hk:k≤n) (x:Nat):aJ (w.setCell ⟨g,k*4,none⟩ (.int .i64 (x:Int))) b g n F L M c (ax A k x) B V T:=
 ⟨h.bg,fun i hi=>by
  rw[ab _ _ _ _ _ _ (by have:=h.bg;omega)];exact h.fst i hi,fun i hi=>by
  rw[ab _ _ _ _ _ _ (by have:=h.bg;omega)];exact h.lst i hi,fun i hi=>by
  rw[ab _ _ _ _ _ _ (by have:=h.bg;omega)];exact h.msk i hi,by
  obtain⟨cp,q⟩:=h.sl;exact⟨cp,by rw[ab _ _ _ _ _ _ (by have:=h.bg;omega)];exact q⟩,by
  rw[ab _ _ _ _ _ _ (by have:=h.bg;omega)];exact h.cn,fun s hs=>by
  by_cases e:s=k
  ·subst e;rw[aj];exact au _ _ _ _ (h.la s hs)
  ·rw[ai _ _ _ _ e,ab _ _ _ _ _ _ (by omega)];exact h.la s hs,fun s hs=>by
  rw[ab _ _ _ _ _ _ (by omega)];exact h.lb s hs,fun s hs=>by
  rw[ab _ _ _ _ _ _ (by omega)];exact h.lv s hs,fun s hs=>by
  rw[ab _ _ _ _ _ _ (by omega)];exact h.lt s hs,
  fun o=>by simpa using h.fb o,fun o=>by simpa using h.fg o⟩
theorem aJ.fV (h:aJ w b g n F L M c A B V T) (k:Nat) (hk:k≤n) (x:Nat):aJ (w.setCell ⟨g,k*4+1,none⟩ (.int .i64 (x:Int))) b g n F L M c A (ax B k x) V T:=
 ⟨h.bg,fun i hi=>by
  rw[ab _ _ _ _ _ _ (by have:=h.bg;omega)];exact h.fst i hi,fun i hi=>by
  rw[ab _ _ _ _ _ _ (by have:=h.bg;omega)];exact h.lst i hi,fun i hi=>by
  rw[ab _ _ _ _ _ _ (by have:=h.bg;omega)];exact h.msk i hi,by
  obtain⟨cp,q⟩:=h.sl;exact⟨cp,by rw[ab _ _ _ _ _ _ (by have:=h.bg;omega)];exact q⟩,by
  rw[ab _ _ _ _ _ _ (by have:=h.bg;omega)];exact h.cn,fun s hs=>by
  rw[ab _ _ _ _ _ _ (by omega)];exact h.la s hs,fun s hs=>by
  by_cases e:s=k
  ·subst e;rw[aj];exact au _ _ _ _ (h.lb s hs)
  ·rw[ai _ _ _ _ e,ab _ _ _ _ _ _ (by omega)];exact h.lb s hs,fun s hs=>by
  rw[ab _ _ _ _ _ _ (by omega)];exact h.lv s hs,fun s hs=>by
  rw[ab _ _ _ _ _ _ (by omega)];exact h.lt s hs,
  fun o=>by simpa using h.fb o,fun o=>by simpa using h.fg o⟩
theorem aJ.wG (h:aJ w b g n F L M c A B V T) (k:Nat) (hk:k≤n) (x:Nat):aJ (w.setCell ⟨g,k*4+2,none⟩ (.int .u8 (x:Int))) b g n F L M c A B (ax V k x) T:=
 ⟨h.bg,fun i hi=>by
  rw[ab _ _ _ _ _ _ (by have:=h.bg;omega)];exact h.fst i hi,fun i hi=>by
  rw[ab _ _ _ _ _ _ (by have:=h.bg;omega)];exact h.lst i hi,fun i hi=>by
  rw[ab _ _ _ _ _ _ (by have:=h.bg;omega)];exact h.msk i hi,by
  obtain⟨cp,q⟩:=h.sl;exact⟨cp,by rw[ab _ _ _ _ _ _ (by have:=h.bg;omega)];exact q⟩,by
  rw[ab _ _ _ _ _ _ (by have:=h.bg;omega)];exact h.cn,fun s hs=>by
  rw[ab _ _ _ _ _ _ (by omega)];exact h.la s hs,fun s hs=>by
  rw[ab _ _ _ _ _ _ (by omega)];exact h.lb s hs,fun s hs=>by
  by_cases e:s=k
  ·subst e;rw[aj];exact au _ _ _ _ (h.lv s hs)
  ·rw[ai _ _ _ _ e,ab _ _ _ _ _ _ (by omega)];exact h.lv s hs,fun s hs=>by
  rw[ab _ _ _ _ _ _ (by omega)];exact h.lt s hs,
  fun o=>by simpa using h.fb o,fun o=>by simpa using h.fg o⟩
theorem aJ.qa (h:aJ w b g n F L M c A B V T) (k:Nat) (hk:k≤n) (x:Bool):aJ (w.setCell ⟨g,k*4+3,none⟩ (.bool x)) b g n F L M c A B V (ax T k x):=
 ⟨h.bg,fun i hi=>by
  rw[ab _ _ _ _ _ _ (by have:=h.bg;omega)];exact h.fst i hi,fun i hi=>by
  rw[ab _ _ _ _ _ _ (by have:=h.bg;omega)];exact h.lst i hi,fun i hi=>by
  rw[ab _ _ _ _ _ _ (by have:=h.bg;omega)];exact h.msk i hi,by
  obtain⟨cp,q⟩:=h.sl;exact⟨cp,by rw[ab _ _ _ _ _ _ (by have:=h.bg;omega)];exact q⟩,by
  rw[ab _ _ _ _ _ _ (by have:=h.bg;omega)];exact h.cn,fun s hs=>by
  rw[ab _ _ _ _ _ _ (by omega)];exact h.la s hs,fun s hs=>by
  rw[ab _ _ _ _ _ _ (by omega)];exact h.lb s hs,fun s hs=>by
  rw[ab _ _ _ _ _ _ (by omega)];exact h.lv s hs,fun s hs=>by
  by_cases e:s=k
  ·subst e;rw[aj];exact au _ _ _ _ (h.lt s hs)
  ·rw[ai _ _ _ _ e,ab _ _ _ _ _ _ (by omega)];exact h.lt s hs,
  fun o=>by simpa using h.fb o,fun o=>by simpa using h.fg o⟩
end
structure aS (b g:Nat) (w w':World):Prop where
 os:w'.os=w.os
 tape:w'.tape=w.tape
 output:w'.output=w.output
 size:w.heap.size≤w'.heap.size
 block: ∀k,k<w.heap.size→k≠b→k≠g→w'.heap[k]? =w.heap[k]?
theorem aS.refl (b g:Nat) (w:World):aS b g w w:=⟨rfl,rfl,rfl,Nat.le_refl _,fun _ _ _ _=>rfl⟩
theorem aS.drew {b g:Nat} {w w':World} (h:aS b g w w'):aS b g w w'.drew:=⟨h.os,h.tape,h.output,h.size,h.block⟩
theorem aS.alloc {b g:Nat} {w w':World} (h:aS b g w w') (o:Obj):aS b g w (w'.alloc o):=
 ⟨h.os,h.tape,h.output,Nat.le_trans h.size (by simp),fun k hk a c=>by rw[Below.heap_alloc _ _ _ (Nat.lt_of_lt_of_le hk h.size)];exact h.block k hk a c⟩
theorem aS.set {b g:Nat} {w w':World} (h:aS b g w w') (p:Addr) (x:Value) (hp:p.block=b∨p.block=g):aS b g w (w'.setCell p x):=
 ⟨h.os,h.tape,h.output,by simp[World.setCell];exact h.size,fun k hk a c=>by rw[Below.heap_setCell _ _ _ _ (by rcases hp with e|e<;>omega)];exact h.block k hk a c⟩
def AG (m:Int) (lv:Nat):Int:=bits BinOp.or IntKind.u64 m (IntKind.u64.wrap (2^(lv%64)))
section
variable {w:World} {b g n:Nat} {F L:Nat→Nat} {M:Nat→Int} {c:Nat} {A B V:Nat→Nat} {T:Nat→Bool}
theorem vV (h:aJ w b g n F L M c A B V T) (lv sp:Nat) (hlv:lv<256) (hsp:sp≤n) (_hn:n≤1024) (hc:c≤1024) (h0:L lv=0):
  Calls Tryz.prog 220 #[.pointer (some ⟨b,0,none⟩),.int .u8 lv,.int .i64 sp] w fun e w'=>e= .returned (.tuple #[])∧
   aJ w' b g n (ax F lv sp) (ax L lv sp) (ax M (lv/64) (AG (M (lv/64)) lv)) (c+1) (ax A sp 0) (ax B sp 0) (ax V sp lv) (ax T sp true)∧aS b g w w':=by
 have H:Hid (aJ w b g n F L M c A B V T):=h
 have e1:=h.lst lv hlv
 rw[h0] at e1
 have e1':w.cell? ⟨b,256+lv,none⟩=some (.int .i64 0):=e1
 have e2:=h.fst lv hlv
 obtain⟨cp,e3⟩:=h.sl
 have e4:=h.cn
 have e5:=h.msk (lv/64) (by omega)
 have e6:=h.la sp hsp
 have e7:=h.lb sp hsp
 have e8:=h.lv sp hsp
 have e9:=h.lt sp hsp
 have fb:=h.fb
 have fg:=h.fg
 have hbg:=h.bg
 have hgb:g≠b:=fun e=>hbg e.symm
 clear e1 h h0
 go_enter Tryz.func220,Tryz.ntmps220
 go_wp2
 go_region
 go_wp2
 go_end0
 refine⟨rfl,?_,?_⟩
 ·exact((((((((H.out.gi sp hsp 0).fV sp hsp 0).wG sp hsp lv).qa sp hsp true).gU lv hlv sp).FV (lv/64) (by omega) _).BS lv hlv sp).iU (c+1)).drew
 ·exact((((((((((aS.refl b g w).set _ _ (Or.inr rfl)).set _ _ (Or.inr rfl)).set _ _ (Or.inr rfl)).set _ _ (Or.inr rfl)).set _ _ (Or.inl rfl)).set _ _ (Or.inl rfl)).set _ _ (Or.inl rfl)).set _ _ (Or.inl rfl))).drew
theorem yF (h:aJ w b g n F L M c A B V T) (lv sp la:Nat) (hlv:lv<256) (hsp:sp≤n) (_hn:n≤1024) (hc:c≤1024) (h0:L lv=la) (h1:1≤la) (h2:la≤n) (h3:la≠sp):
  Calls Tryz.prog 220 #[.pointer (some ⟨b,0,none⟩),.int .u8 lv,.int .i64 sp] w fun e w'=>e= .returned (.tuple #[])∧
   aJ w' b g n F (ax L lv sp) M (c+1) (ax A sp la) (ax (ax B sp 0) la sp) (ax V sp lv) (ax T sp true)∧aS b g w w':=by
 have H:Hid (aJ w b g n F L M c A B V T):=h
 have e1:=h.lst lv hlv
 rw[h0] at e1
 have e2:=h.fst lv hlv
 obtain⟨cp,e3⟩:=h.sl
 have e4:=h.cn
 have e6:=h.la sp hsp
 have e7:=h.lb sp hsp
 have e8:=h.lv sp hsp
 have e9:=h.lt sp hsp
 have e10:=h.lb la h2
 have fb:=h.fb
 have fg:=h.fg
 have hbg:=h.bg
 have hgb:g≠b:=fun e=>hbg e.symm
 have hne:((la:Int)==0)=false:=by rw[beq_eq_false_iff_ne];omega
 have n0: ¬sp*4=la*4+1:=by omega
 have n1: ¬sp*4+1=la*4+1:=by omega
 have n2: ¬sp*4+2=la*4+1:=by omega
 have n3: ¬sp*4+3=la*4+1:=by omega
 clear h h0
 go_enter Tryz.func220,Tryz.ntmps220
 go_wp2
 go_end0
 refine⟨rfl,?_,?_⟩
 ·exact(((((((H.out.gi sp hsp la).fV sp hsp 0).wG sp hsp lv).qa sp hsp true).fV la h2 sp).BS lv hlv sp).iU (c+1))
 ·exact((((((((aS.refl b g w).set _ _ (Or.inr rfl)).set _ _ (Or.inr rfl)).set _ _ (Or.inr rfl)).set _ _ (Or.inr rfl)).set _ _ (Or.inr rfl)).set _ _ (Or.inl rfl)).set _ _ (Or.inl rfl))
def tR (m:Int) (lv:Nat):Int:=bits BinOp.andNot IntKind.u64 m (IntKind.u64.wrap (2^(lv%64)))
theorem sK (h:aJ w b g n F L M (c+1) A B V T) (sp lv:Nat) (hsp:sp≤n) (hlv:lv<256) (_hn:n≤1024) (hc:c≤1024) (hA:A sp=0) (hB:B sp=0) (hV:V sp=lv):
  Calls Tryz.prog 198 #[.pointer (some ⟨b,0,none⟩),.int .i64 sp] w fun e w'=>e= .returned (.tuple #[])∧
   aJ w' b g n (ax F lv 0) (ax L lv 0) (ax M (lv/64) (tR (M (lv/64)) lv)) c (ax A sp 0) (ax B sp 0) (ax V sp 0) (ax T sp false)∧aS b g w w':=by
 have H:Hid (aJ w b g n F L M (c+1) A B V T):=h
 obtain⟨cp,e1⟩:=h.sl
 have e2:w.cell? ⟨b,517,none⟩=some (.int .i64 ((c:Int)+1)):=h.cn
 have e3:=h.la sp hsp
 have e4:=h.lb sp hsp
 have e5:=h.lv sp hsp
 have e6:=h.lt sp hsp
 rw[hA] at e3
 rw[hB] at e4
 rw[hV] at e5
 have e7:=h.fst lv hlv
 have e8:=h.lst lv hlv
 have e9:=h.msk (lv/64) (by omega)
 have fb:=h.fb
 have fg:=h.fg
 have hbg:=h.bg
 have hgb:g≠b:=fun e=>hbg e.symm
 have zb:=h.eF
 have zg:=h.eW
 have yb: ¬b=w.heap.size:=by omega
 have yg: ¬g=w.heap.size:=by omega
 have e3':w.cell? ⟨g,sp*4,none⟩=some (.int .i64 0):=e3
 have e4':w.cell? ⟨g,sp*4+1,none⟩=some (.int .i64 0):=e4
 clear h hA hB hV e3 e4
 go_enter Tryz.func198,Tryz.ntmps198
 go_wp2
 go_region
 go_wp2
 go_region
 go_wp2
 go_region
 go_wp2
 go_region
 go_wp2
 go_end0
 refine⟨rfl,?_,?_⟩
 ·exact((((((((((H.out.gU lv hlv 0).BS lv hlv 0).FV (lv/64) (by omega) _).gi sp hsp 0).fV sp hsp 0).wG sp hsp 0).qa sp hsp false).iU c)).alloc _).drew.drew.drew.drew
 ·exact((((((((((aS.refl b g w).set _ _ (Or.inl rfl)).set _ _ (Or.inl rfl)).set _ _ (Or.inl rfl)).set _ _ (Or.inr rfl)).set _ _ (Or.inr rfl)).set _ _ (Or.inr rfl)).set _ _ (Or.inr rfl)).set _ _ (Or.inl rfl)).alloc _).drew.drew.drew.drew
theorem su (h:aJ w b g n F L M (c+1) A B V T) (sp lv:Nat) (hsp:sp≤n) (hlv:lv<256) (_hn:n≤1024) (hc:c≤1024) (y:Nat) (hA:A sp=0) (hB:B sp=y) (hV:V sp=lv) (hy:y≤n) (hy1:1≤y) (hys:y≠sp):
  Calls Tryz.prog 198 #[.pointer (some ⟨b,0,none⟩),.int .i64 sp] w fun e w'=>e= .returned (.tuple #[])∧
   aJ w' b g n (ax F lv y) L M c (ax (ax A y 0) sp 0) (ax B sp 0) (ax V sp 0) (ax T sp false)∧aS b g w w':=by
 have H:Hid (aJ w b g n F L M (c+1) A B V T):=h
 obtain⟨cp,e1⟩:=h.sl
 have e2:w.cell? ⟨b,517,none⟩=some (.int .i64 ((c:Int)+1)):=h.cn
 have e3:=h.la sp hsp
 have e4:=h.lb sp hsp
 have e5:=h.lv sp hsp
 have e6:=h.lt sp hsp
 rw[hA] at e3
 rw[hB] at e4
 rw[hV] at e5
 have e7:=h.fst lv hlv
 have e8:=h.lst lv hlv
 have e9:=h.msk (lv/64) (by omega)
 have fb:=h.fb
 have fg:=h.fg
 have hbg:=h.bg
 have hgb:g≠b:=fun e=>hbg e.symm
 have zb:=h.eF
 have zg:=h.eW
 have yb: ¬b=w.heap.size:=by omega
 have yg: ¬g=w.heap.size:=by omega
 have ny:((y:Int)==0)=false:=by rw[beq_eq_false_iff_ne];omega
 have y0: ¬y*4=sp*4:=by omega
 have y1: ¬y*4=sp*4+1:=by omega
 have y2: ¬y*4=sp*4+2:=by omega
 have y3: ¬y*4=sp*4+3:=by omega
 have ey:=h.la y hy
 have e3':w.cell? ⟨g,sp*4,none⟩=some (.int .i64 0):=e3
 clear h hA hB hV e3
 go_enter Tryz.func198,Tryz.ntmps198
 go_wp2
 go_region
 go_wp2
 go_region
 go_wp2
 go_region
 go_wp2
 go_end0
 refine⟨rfl,?_,?_⟩
 ·exact(((((((((H.out.gU lv hlv y).gi y hy 0).gi sp hsp 0).fV sp hsp 0).wG sp hsp 0).qa sp hsp false).iU c)).alloc _).drew.drew.drew
 ·exact(((((((((aS.refl b g w).set _ _ (Or.inl rfl)).set _ _ (Or.inr rfl)).set _ _ (Or.inr rfl)).set _ _ (Or.inr rfl)).set _ _ (Or.inr rfl)).set _ _ (Or.inr rfl)).set _ _ (Or.inl rfl)).alloc _).drew.drew.drew
theorem sq (h:aJ w b g n F L M (c+1) A B V T) (sp lv:Nat) (hsp:sp≤n) (hlv:lv<256) (_hn:n≤1024) (hc:c≤1024) (x f:Nat) (hA:A sp=x) (hB:B sp=0) (hV:V sp=lv) (hF:F lv=f) (hf:1≤f) (hx:x≤n) (hx1:1≤x) (hxs:x≠sp):
  Calls Tryz.prog 198 #[.pointer (some ⟨b,0,none⟩),.int .i64 sp] w fun e w'=>e= .returned (.tuple #[])∧
   aJ w' b g n F (ax L lv x) M c (ax A sp 0) (ax (ax B x 0) sp 0) (ax V sp 0) (ax T sp false)∧aS b g w w':=by
 have H:Hid (aJ w b g n F L M (c+1) A B V T):=h
 obtain⟨cp,e1⟩:=h.sl
 have e2:w.cell? ⟨b,517,none⟩=some (.int .i64 ((c:Int)+1)):=h.cn
 have e3:=h.la sp hsp
 have e4:=h.lb sp hsp
 have e5:=h.lv sp hsp
 have e6:=h.lt sp hsp
 rw[hA] at e3
 rw[hB] at e4
 rw[hV] at e5
 have e7:=h.fst lv hlv
 have e8:=h.lst lv hlv
 have e9:=h.msk (lv/64) (by omega)
 have fb:=h.fb
 have fg:=h.fg
 have hbg:=h.bg
 have hgb:g≠b:=fun e=>hbg e.symm
 have zb:=h.eF
 have zg:=h.eW
 have yb: ¬b=w.heap.size:=by omega
 have yg: ¬g=w.heap.size:=by omega
 have nx:((x:Int)==0)=false:=by rw[beq_eq_false_iff_ne];omega
 have x0: ¬x*4+1=sp*4:=by omega
 have x1: ¬x*4+1=sp*4+1:=by omega
 have x2: ¬x*4+1=sp*4+2:=by omega
 have x3: ¬x*4+1=sp*4+3:=by omega
 have ex:=h.lb x hx
 have nf:((f:Int)==0)=false:=by rw[beq_eq_false_iff_ne];omega
 rw[hF] at e7
 have e4':w.cell? ⟨g,sp*4+1,none⟩=some (.int .i64 0):=e4
 clear h hA hB hV hF e4
 go_enter Tryz.func198,Tryz.ntmps198
 go_wp2
 go_region
 go_wp2
 go_region
 go_wp2
 go_region
 go_wp2
 go_end0
 refine⟨rfl,?_,?_⟩
 ·exact(((((((((H.out.fV x hx 0).BS lv hlv x).gi sp hsp 0).fV sp hsp 0).wG sp hsp 0).qa sp hsp false).iU c)).alloc _).drew.drew.drew
 ·exact(((((((((aS.refl b g w).set _ _ (Or.inr rfl)).set _ _ (Or.inl rfl)).set _ _ (Or.inr rfl)).set _ _ (Or.inr rfl)).set _ _ (Or.inr rfl)).set _ _ (Or.inr rfl)).set _ _ (Or.inl rfl)).alloc _).drew.drew.drew
theorem vX (h:aJ w b g n F L M (c+1) A B V T) (sp lv:Nat) (hsp:sp≤n) (hlv:lv<256) (_hn:n≤1024) (hc:c≤1024) (x y f:Nat) (hA:A sp=x) (hB:B sp=y) (hV:V sp=lv) (hF:F lv=f) (hf:1≤f) (hx:x≤n) (hx1:1≤x) (hxs:x≠sp) (hy:y≤n) (hy1:1≤y) (hys:y≠sp):
  Calls Tryz.prog 198 #[.pointer (some ⟨b,0,none⟩),.int .i64 sp] w fun e w'=>e= .returned (.tuple #[])∧
   aJ w' b g n F L M c (ax (ax A y x) sp 0) (ax (ax B x y) sp 0) (ax V sp 0) (ax T sp false)∧aS b g w w':=by
 have H:Hid (aJ w b g n F L M (c+1) A B V T):=h
 obtain⟨cp,e1⟩:=h.sl
 have e2:w.cell? ⟨b,517,none⟩=some (.int .i64 ((c:Int)+1)):=h.cn
 have e3:=h.la sp hsp
 have e4:=h.lb sp hsp
 have e5:=h.lv sp hsp
 have e6:=h.lt sp hsp
 rw[hA] at e3
 rw[hB] at e4
 rw[hV] at e5
 have e7:=h.fst lv hlv
 have e8:=h.lst lv hlv
 have e9:=h.msk (lv/64) (by omega)
 have fb:=h.fb
 have fg:=h.fg
 have hbg:=h.bg
 have hgb:g≠b:=fun e=>hbg e.symm
 have zb:=h.eF
 have zg:=h.eW
 have yb: ¬b=w.heap.size:=by omega
 have yg: ¬g=w.heap.size:=by omega
 have ny:((y:Int)==0)=false:=by rw[beq_eq_false_iff_ne];omega
 have y0: ¬y*4=sp*4:=by omega
 have y1: ¬y*4=sp*4+1:=by omega
 have y2: ¬y*4=sp*4+2:=by omega
 have y3: ¬y*4=sp*4+3:=by omega
 have ey:=h.la y hy
 have nx:((x:Int)==0)=false:=by rw[beq_eq_false_iff_ne];omega
 have x0: ¬x*4+1=sp*4:=by omega
 have x1: ¬x*4+1=sp*4+1:=by omega
 have x2: ¬x*4+1=sp*4+2:=by omega
 have x3: ¬x*4+1=sp*4+3:=by omega
 have ex:=h.lb x hx
 have nf:((f:Int)==0)=false:=by rw[beq_eq_false_iff_ne];omega
 rw[hF] at e7
 have xy: ¬x*4+1=y*4:=by omega
 clear h hA hB hV hF
 go_enter Tryz.func198,Tryz.ntmps198
 go_wp2
 go_region
 go_wp2
 go_region
 go_wp2
 go_region
 go_wp2
 go_end0
 refine⟨rfl,?_,?_⟩
 ·exact(((((((((H.out.fV x hx y).gi y hy x).gi sp hsp 0).fV sp hsp 0).wG sp hsp 0).qa sp hsp false).iU c)).alloc _).drew.drew.drew
 ·exact(((((((((aS.refl b g w).set _ _ (Or.inr rfl)).set _ _ (Or.inr rfl)).set _ _ (Or.inr rfl)).set _ _ (Or.inr rfl)).set _ _ (Or.inr rfl)).set _ _ (Or.inr rfl)).set _ _ (Or.inl rfl)).alloc _).drew.drew.drew
end
end Go.Proofs.YtdbailcdlngemaaGreatDoor.Bq
namespace Go.Proofs.YtdbailcdlngemaaGreatDoor.Bq
def QL (R:List (Nat×Nat)) (lv:Nat):List Nat:=(R.filter (fun it=>it.2==lv)).map (fun it=>it.1+1)
def iX (A B:Nat→Nat):Nat→List Nat→Prop
 |_,[]=>True
 |p,x::xs=>A x=p∧B x=xs.headD 0∧iX A B x xs
theorem ez (A B A' B':Nat→Nat): ∀(l:List Nat) (p:Nat),(∀s∈l,A' s=A s∧B' s=B s)→iX A B p l→iX A' B' p l
 |[],_,_,_=>trivial
 |x::xs,p,h,hc=>by
  obtain⟨a,b,c⟩:=hc
  obtain⟨ha,hb⟩:=h x (by simp)
  exact⟨ha.trans a,hb.trans b,ez A B A' B' xs x (fun s hs=>h s (by simp[hs])) c⟩
theorem cP: ∀(l:List Nat) (p:Nat),l≠[]→l.getLastD p∈l
 |[],_,h=>absurd rfl h
 |[x],p,_=>by simp
 |x::y::ys,p,_=>by
  have:=cP (y::ys) x (by simp)
  rw[List.getLastD_cons]
  exact List.mem_cons_of_mem _ this
theorem mH (A B A' B':Nat→Nat) (sp:Nat): ∀(l:List Nat) (p:Nat),l.Nodup→iX A B p l→A' sp=l.getLastD p→B' sp=0→(∀s∈l,A' s=A s)→
  (∀s∈l,B' s=if s=l.getLastD p then sp else B s)→iX A' B' p (l++[sp])
 |[],p,_,_,h1,h2,_,_=>⟨h1,h2,trivial⟩
 |x::xs,p,hn,hc,h1,h2,h3,h4=>by
  obtain⟨a,b,c⟩:=hc
  rw[List.nodup_cons] at hn
  rw[List.getLastD_cons] at h1 h4
  refine⟨(h3 x (by simp)).trans a,?_,mH A B A' B' sp xs x hn.2 c h1 h2 (fun s hs=>h3 s (by simp[hs])) (fun s hs=>h4 s (by simp[hs]))⟩
  rw[h4 x (by simp)]
  cases xs with
  |nil=>simp
  |cons y ys=>
   have hx:x≠(y::ys).getLastD x:=fun e=>hn.1 (by rw[e];exact cP _ _ (by simp))
   rw[if_neg hx,b]
   rfl
theorem oe (A B:Nat→Nat) (sp:Nat) (l2:List Nat): ∀(l1:List Nat) (p:Nat),iX A B p (l1++sp::l2)→A sp=l1.getLastD p∧B sp=l2.headD 0∧iX A B sp l2
 |[],p,h=>⟨h.1,h.2.1,h.2.2⟩
 |x::xs,p,h=>by
  have:=oe A B sp l2 xs x h.2.2
  rw[List.getLastD_cons]
  exact this
theorem jF (A B A' B':Nat→Nat) (sp:Nat) (l2:List Nat): ∀(l1:List Nat) (p:Nat),(l1++sp::l2).Nodup→iX A B p (l1++sp::l2)→
  (∀s∈l1,A' s=A s)→(∀s∈l2,A' s=if s=l2.headD 0 then l1.getLastD p else A s)→(∀s∈l1,B' s=if s=l1.getLastD p then l2.headD 0 else B s)→(∀s∈l2,B' s=B s)→iX A' B' p (l1++l2)
 |[],p,hn,hc,_,h2,_,h4=>by
  cases l2 with
  |nil=>trivial
  |cons y ys=>
   obtain⟨_,_,a,b,c⟩:=hc
   simp only[List.nil_append,List.nodup_cons] at hn
   refine⟨by rw[h2 y (by simp)];simp,(h4 y (by simp)).trans b,ez A B A' B' ys y (fun s hs=>⟨?_,h4 s (by simp[hs])⟩) c⟩
   rw[h2 s (by simp[hs]),if_neg]
   intro e
   simp at e
   subst e
   exact hn.2.1 hs
 |x::xs,p,hn,hc,h1,h2,h3,h4=>by
  obtain⟨a,b,c⟩:=hc
  simp only[List.cons_append,List.nodup_cons] at hn
  rw[List.getLastD_cons] at h2 h3
  refine⟨(h1 x (by simp)).trans a,?_,jF A B A' B' sp l2 xs x hn.2 c (fun s hs=>h1 s (by simp[hs])) h2 (fun s hs=>h3 s (by simp[hs])) h4⟩
  rw[h3 x (by simp)]
  cases xs with
  |nil=>simp
  |cons y ys=>
   have hx:x≠(y::ys).getLastD x:=fun e=>hn.1 (by
    have hm:x∈y::ys:=by rw[e];exact cP _ _ (by simp)
    exact List.mem_append_left _ hm)
   rw[if_neg hx,b]
   rfl
structure Inv (n:Nat) (F L m:Nat→Nat) (c:Nat) (A B V:Nat→Nat) (T:Nat→Bool) (R:List (Nat×Nat)):Prop where
 ids:(R.map (·.1)).Nodup
 jt: ∀it∈R,it.1<n∧it.2<256
 there: ∀s,s≤n→(T s=true↔ ∃it∈R,it.1+1=s)
 gJ: ∀it∈R,V (it.1+1)=it.2
 nolev: ∀s,s≤n→T s=false→V s=0
 ch: ∀lv,lv<256→iX A B 0 (QL R lv)
 hd: ∀lv,lv<256→F lv=(QL R lv).headD 0
 tl: ∀lv,lv<256→L lv=(QL R lv).getLastD 0
 bit: ∀lv,lv<256→(m (lv/64)).testBit (lv%64)= !(QL R lv).isEmpty
 mlt: ∀i,i<4→m i<18446744073709551616
 cnt:c=R.length
theorem tz {R:List (Nat×Nat)} {lv s:Nat}:s∈QL R lv↔ ∃it∈R,it.2=lv∧it.1+1=s:=by
 unfold QL
 simp only[List.mem_map,List.mem_filter,beq_iff_eq]
 constructor
 ·rintro⟨it,⟨a,b⟩,c⟩;exact⟨it,a,b,c⟩
 ·rintro⟨it,a,b,c⟩;exact⟨it,⟨a,b⟩,c⟩
theorem fv (R:List (Nat×Nat)) (id lv k:Nat):QL (R++[(id,lv)]) k=if k=lv then QL R k++[id+1] else QL R k:=by
 unfold QL
 rw[List.filter_append,List.map_append]
 by_cases h:k=lv
 ·subst h;simp
 ·rw[if_neg h]
  have:(lv==k)=false:=by rw[beq_eq_false_iff_ne];exact fun e=>h e.symm
  simp[this]
theorem nU (l:List Nat) (h:l.Nodup):(l.map (· +1)).Nodup:=by
 rw[List.Nodup,List.pairwise_map]
 exact List.Pairwise.imp (fun hne e=>hne (by omega)) h
theorem mM {R:List (Nat×Nat)} (h:(R.map (·.1)).Nodup) (lv:Nat):(QL R lv).Nodup:=by
 have h1:((R.filter (fun it=>it.2==lv)).map (·.1)).Nodup:=h.sublist (List.Sublist.map _ (List.filter_sublist))
 have e:QL R lv=((R.filter (fun it=>it.2==lv)).map (·.1)).map (· +1):=by unfold QL;rw[List.map_map];rfl
 rw[e]
 exact nU _ h1
theorem wv (x lv:Nat) (h:x<18446744073709551616):AG (x:Int) lv=((x|||2^(lv%64):Nat):Int):=by
 have hp:2^(lv%64)≤2^63:=Nat.pow_le_pow_right (by decide) (by omega)
 have h63:(2:Nat)^63=9223372036854775808:=by decide
 unfold AG
 have e:IntKind.u64.wrap ((2:Int)^(lv%64))=((2^(lv%64):Nat):Int):=by
  have c:((2:Int)^(lv%64))=((2^(lv%64):Nat):Int):=by simp
  rw[c,IntKind.wrap_u64]
  generalize 2^(lv%64)=q at*
  omega
 rw[e,bits_or_u64_nat x _ h (by omega)]
theorem sg (x lv:Nat) (h:x<18446744073709551616):tR (x:Int) lv=((x&&&(18446744073709551615-2^(lv%64)):Nat):Int):=by
 have hp:2^(lv%64)≤2^63:=Nat.pow_le_pow_right (by decide) (by omega)
 have h63:(2:Nat)^63=9223372036854775808:=by decide
 unfold tR
 have e:IntKind.u64.wrap ((2:Int)^(lv%64))=((2^(lv%64):Nat):Int):=by
  have c:((2:Int)^(lv%64))=((2^(lv%64):Nat):Int):=by simp
  rw[c,IntKind.wrap_u64]
  generalize 2^(lv%64)=q at*
  omega
 rw[e,u64_andNot_nat x _ h (by omega)]
theorem Gy (x lv:Nat) (h:x<18446744073709551616):x|||2^(lv%64)<18446744073709551616:=
 Nat.or_lt_two_pow (n:=64) h (Nat.pow_lt_pow_right (by decide) (by omega))
theorem Ej (x y:Nat) (h:x<18446744073709551616):x&&&y<18446744073709551616:=Nat.lt_of_le_of_lt Nat.and_le_left h
theorem Aw (x k j:Nat):(x|||2^k).testBit j=(x.testBit j||decide (k=j)):=by
 rw[Nat.testBit_or,Nat.testBit_two_pow]
theorem vb (x k j:Nat) (hk:k<64) (hj:j<64):(x&&&(18446744073709551615-2^k)).testBit j=(x.testBit j&& !decide (k=j)):=by
 rw[Nat.testBit_and]
 congr 1
 have e:18446744073709551615-2^k=2^64-(2^k+1):=by
  have:(2:Nat)^64=18446744073709551616:=by decide
  omega
 rw[e,Nat.testBit_two_pow_sub_succ (Nat.pow_lt_pow_right (by decide) hk),Nat.testBit_two_pow]
 simp[hj]
theorem Ai {R:List (Nat×Nat)} {lv s:Nat} (h:s∈QL R lv):1≤s:=by
 obtain⟨it,_,_,e⟩:=tz.1 h;omega
theorem fS: ∀(l:List Nat),l≠[]→l.headD 0∈l
 |[],h=>absurd rfl h
 |x::xs,_=>by simp
section
variable {n:Nat} {F L m:Nat→Nat} {c:Nat} {A B V:Nat→Nat} {T:Nat→Bool} {R:List (Nat×Nat)}
theorem Inv.eU (h:Inv n F L m c A B V T R) {lv s:Nat} (hs:s∈QL R lv):s≤n∧T s=true∧V s=lv∧1≤s:=by
 obtain⟨it,hi,e1,e2⟩:=tz.1 hs
 have hr:=h.jt it hi
 subst e2
 exact⟨by omega,(h.there _ (by omega)).2 ⟨it,hi,rfl⟩,(h.gJ it hi).trans e1,by omega⟩
theorem Inv.last_zero (h:Inv n F L m c A B V T R) (lv:Nat) (hlv:lv<256):L lv=0↔QL R lv=[]:=by
 rw[h.tl lv hlv]
 constructor
 ·intro e
  apply Classical.byContradiction
  intro hne
  have:=Ai (cP (QL R lv) 0 hne)
  omega
 ·intro e;rw[e];rfl
theorem Inv.sm (h:Inv n F L m c A B V T R) (lv:Nat) (hlv:lv<256):F lv=0↔QL R lv=[]:=by
 rw[h.hd lv hlv]
 constructor
 ·intro e
  apply Classical.byContradiction
  intro hne
  have:=Ai (fS (QL R lv) hne)
  omega
 ·intro e;rw[e];rfl
theorem qH {id lv:Nat} (h:Inv n F L m c A B V T R) (hid: ∀it∈R,it.1≠id):((R++[(id,lv)]).map (·.1)).Nodup:=by
 rw[List.map_append,List.nodup_append]
 refine⟨h.ids,by simp,?_⟩
 intro a ha b hb
 simp at hb
 subst hb
 obtain⟨it,hi,rfl⟩:=List.mem_map.1 ha
 exact hid it hi
theorem rC {id lv:Nat} (h:Inv n F L m c A B V T R) (hi:id<n) (hlv:lv<256): ∀it∈R++[(id,lv)],it.1<n∧it.2<256:=by
 intro it hit
 rcases List.mem_append.1 hit with a|a
 ·exact h.jt it a
 ·simp at a;subst a;exact⟨hi,hlv⟩
theorem mG {id lv:Nat} (h:Inv n F L m c A B V T R): ∀s,s≤n→(ax T (id+1) true s=true↔ ∃it∈R++[(id,lv)],it.1+1=s):=by
 intro s hs
 by_cases e:s=id+1
 ·subst e;rw[aj];simp
 ·rw[ai _ _ _ _ e,h.there s hs]
  constructor
  ·rintro⟨it,a,b⟩;exact⟨it,by simp[a],b⟩
  ·rintro⟨it,a,b⟩
   rcases List.mem_append.1 a with a|a
   ·exact⟨it,a,b⟩
   ·simp at a;subst a;exact absurd b.symm e
theorem rk {id lv:Nat} (h:Inv n F L m c A B V T R) (hid: ∀it∈R,it.1≠id): ∀it∈R++[(id,lv)],ax V (id+1) lv (it.1+1)=it.2:=by
 intro it hit
 rcases List.mem_append.1 hit with a|a
 ·rw[ai _ _ _ _ (by have:=hid it a;omega)];exact h.gJ it a
 ·simp at a;subst a;exact aj _ _ _
theorem nA {id lv:Nat} (h:Inv n F L m c A B V T R): ∀s,s≤n→ax T (id+1) true s=false→ax V (id+1) lv s=0:=by
 intro s hs ht
 by_cases e:s=id+1
 ·subst e;rw[aj] at ht;cases ht
 ·rw[ai _ _ _ _ e] at ht⊢;exact h.nolev s hs ht
theorem dV {id:Nat} (hid: ∀it∈R,it.1≠id) (k:Nat):id+1 ∉ QL R k:=by
 intro hm
 obtain⟨it,a,_,e⟩:=tz.1 hm
 exact hid it a (by omega)
theorem mN {id lv:Nat} (h:Inv n F L m c A B V T R) (hi:id<n) (hlv:lv<256) (hid: ∀it∈R,it.1≠id) (he:QL R lv=[]):
  Inv n (ax F lv (id+1)) (ax L lv (id+1)) (ax m (lv/64) (m (lv/64)|||2^(lv%64))) (c+1) (ax A (id+1) 0) (ax B (id+1) 0) (ax V (id+1) lv) (ax T (id+1) true) (R++[(id,lv)]) where
 ids:=qH h hid
 jt:=rC h hi hlv
 there:=mG h
 gJ:=rk h hid
 nolev:=nA h
 ch:=by
  intro k hk
  rw[fv]
  split
  ·rename_i e;subst e
   rw[he]
   exact⟨aj _ _ _,aj _ _ _,trivial⟩
  ·refine ez A B _ _ _ _ (fun s hs=> ?_) (h.ch k hk)
   have hne:s≠id+1:=fun e=>dV hid k (e▸hs)
   exact⟨ai _ _ _ _ hne,ai _ _ _ _ hne⟩
 hd:=by
  intro k hk
  rw[fv]
  split
  ·rename_i e;subst e;rw[he,aj];rfl
  ·rename_i e;rw[ai _ _ _ _ e];exact h.hd k hk
 tl:=by
  intro k hk
  rw[fv]
  split
  ·rename_i e;subst e;rw[he,aj];rfl
  ·rename_i e;rw[ai _ _ _ _ e];exact h.tl k hk
 bit:=by
  intro k hk
  rw[fv]
  by_cases e:k=lv
  ·subst e;rw[if_pos rfl,aj,Aw];simp
  ·rw[if_neg e]
   by_cases e2:k/64=lv/64
   ·rw[e2,aj,Aw,←e2,h.bit k hk]
    have: ¬lv%64=k%64:=by omega
    simp[this]
   ·rw[ai _ _ _ _ e2];exact h.bit k hk
 mlt:=by
  intro i hi'
  by_cases e:i=lv/64
  ·subst e;rw[aj];exact Gy _ _ (h.mlt _ hi')
  ·rw[ai _ _ _ _ e];exact h.mlt i hi'
 cnt:=by rw[h.cnt];simp
theorem nQ {id lv:Nat} (h:Inv n F L m c A B V T R) (hi:id<n) (hlv:lv<256) (hid: ∀it∈R,it.1≠id) (he:QL R lv≠[]):
  Inv n F (ax L lv (id+1)) m (c+1) (ax A (id+1) (L lv)) (ax (ax B (id+1) 0) (L lv) (id+1)) (ax V (id+1) lv) (ax T (id+1) true) (R++[(id,lv)]) where
 ids:=qH h hid
 jt:=rC h hi hlv
 there:=mG h
 gJ:=rk h hid
 nolev:=nA h
 ch:=by
  intro k hk
  have hlm:L lv∈QL R lv:=by rw[h.tl lv hlv];exact cP _ _ he
  have hls:L lv≠id+1:=fun e=>dV hid lv (e▸hlm)
  rw[fv]
  split
  ·rename_i e;subst e
   refine mH A B _ _ _ _ _ (mM h.ids _) (h.ch k hk) ?_ ?_ (fun s hs=> ?_) (fun s hs=> ?_)
   ·rw[aj];exact h.tl k hk
   ·rw[ai _ _ _ _ (Ne.symm hls),aj]
   ·exact ai _ _ _ _ (fun e=>dV hid k (e▸hs))
   ·rw[←h.tl k hk]
    by_cases e:s=L k
    ·subst e;rw[aj,if_pos rfl]
    ·have hne:s≠id+1:=fun e'=>dV hid k (e'▸hs)
     rw[ai _ _ _ _ e,if_neg e,ai _ _ _ _ hne]
  ·rename_i e
   refine ez A B _ _ _ _ (fun s hs=> ?_) (h.ch k hk)
   have hne:s≠id+1:=fun e=>dV hid k (e▸hs)
   have hnl:s≠L lv:=by
    rintro rfl
    have a:=(h.eU hs).2.2.1
    have b:=(h.eU hlm).2.2.1
    omega
   exact⟨ai _ _ _ _ hne,by rw[ai _ _ _ _ hnl,ai _ _ _ _ hne]⟩
 hd:=by
  intro k hk
  rw[fv]
  split
  ·rename_i e;subst e
   rw[h.hd k hk]
   cases hq:QL R k with
   |nil=>exact absurd hq he
   |cons x xs=>rfl
  ·exact h.hd k hk
 tl:=by
  intro k hk
  rw[fv]
  split
  ·rename_i e;subst e;rw[aj];simp
  ·rename_i e;rw[ai _ _ _ _ e];exact h.tl k hk
 bit:=by
  intro k hk
  rw[fv]
  by_cases e:k=lv
  ·subst e
   rw[if_pos rfl,h.bit k hk]
   cases hq:QL R k with
   |nil=>exact absurd hq he
   |cons x xs=>rfl
  ·rw[if_neg e];exact h.bit k hk
 mlt:=h.mlt
 cnt:=by rw[h.cnt];simp
end
theorem dD (R1 R2:List (Nat×Nat)) (k:Nat):QL (R1++R2) k=QL R1 k++QL R2 k:=by
 unfold QL;rw[List.filter_append,List.map_append]
theorem o6 (id lv:Nat) (R:List (Nat×Nat)) (k:Nat):QL ((id,lv)::R) k=if k=lv then(id+1)::QL R k else QL R k:=by
 unfold QL
 by_cases h:k=lv
 ·subst h;simp
 ·rw[if_neg h]
  have:(lv==k)=false:=by rw[beq_eq_false_iff_ne];exact fun e=>h e.symm
  simp[this]
section
variable {n:Nat} {F L m:Nat→Nat} {c:Nat} {A B V:Nat→Nat} {T:Nat→Bool} {R1 R2:List (Nat×Nat)} {id lv:Nat}
theorem CO (h:Inv n F L m (c+1) A B V T (R1++(id,lv)::R2)):((R1++R2).map (·.1)).Nodup∧(∀it∈R1++R2,it.1≠id):=by
 have h0:=h.ids
 rw[List.map_append,List.map_cons,List.nodup_append,List.nodup_cons] at h0
 obtain⟨a,⟨b1,b2⟩,d⟩:=h0
 constructor
 ·rw[List.map_append,List.nodup_append]
  exact⟨a,b2,fun x hx y hy=>d x hx y (by simp[hy])⟩
 ·intro it hit e
  rcases List.mem_append.1 hit with q|q
  ·exact d it.1 (List.mem_map_of_mem q) id (by simp) e
  ·exact b1 (by have:=List.mem_map_of_mem (f:=fun x:Nat×Nat=>x.1) q;rw[←e];exact this)
theorem lG (h:Inv n F L m (c+1) A B V T (R1++(id,lv)::R2)) (F' L' m' A' B':Nat→Nat)
  (hF: ∀k,k<256→F' k=if k=lv∧QL R1 lv=[] then(QL R2 lv).headD 0 else F k)
  (hL: ∀k,k<256→L' k=if k=lv∧QL R2 lv=[] then(QL R1 lv).getLastD 0 else L k)
  (hA: ∀s,s≠id+1→A' s=if QL R2 lv≠[]∧s=(QL R2 lv).headD 0 then(QL R1 lv).getLastD 0 else A s)
  (hB: ∀s,s≠id+1→B' s=if QL R1 lv≠[]∧s=(QL R1 lv).getLastD 0 then(QL R2 lv).headD 0 else B s)
  (hm: ∀k,k<256→(m' (k/64)).testBit (k%64)=if k=lv then !(QL R1 lv++QL R2 lv).isEmpty else(m (k/64)).testBit (k%64))
  (hml: ∀i,i<4→m' i<18446744073709551616):
  Inv n F' L' m' c A' B' (ax V (id+1) 0) (ax T (id+1) false) (R1++R2):=by
 obtain⟨hids,hnot⟩:=CO h
 have hmem: ∀it,it∈R1++R2→it∈R1++(id,lv)::R2:=by
  intro it hit
  rcases List.mem_append.1 hit with q|q
  ·exact List.mem_append_left _ q
  ·exact List.mem_append_right _ (List.mem_cons_of_mem _ q)
 have hlv:lv<256:=(h.jt (id,lv) (by simp)).2
 have hq:QL (R1++(id,lv)::R2) lv=QL R1 lv++(id+1)::QL R2 lv:=by rw[dD,o6,if_pos rfl]
 have hqo: ∀k,k≠lv→QL (R1++(id,lv)::R2) k=QL (R1++R2) k:=by
  intro k hk;rw[dD,o6,if_neg hk,dD]
 have hnd:=mM h.ids lv
 rw[hq] at hnd
 have hch:=h.ch lv hlv
 rw[hq] at hch
 have hnd2:=hnd
 rw[List.nodup_append,List.nodup_cons] at hnd2
 have hn1: ∀s∈QL R1 lv,s≠id+1:=fun s hs e=>hnd2.2.2 s hs (id+1) (by simp) e
 have hn2: ∀s∈QL R2 lv,s≠id+1:=fun s hs e=>hnd2.2.1.1 (e▸hs)
 have hn12: ∀s∈QL R1 lv,s ∉ QL R2 lv:=fun s hs hs2=>hnd2.2.2 s hs s (by simp[hs2]) rfl
 refine⟨hids,fun it hit=>h.jt it (hmem it hit),?_,?_,?_,?_,?_,?_,?_,hml,?_⟩
 ·intro s hs
  by_cases e:s=id+1
  ·subst e
   rw[aj]
   constructor
   ·intro hf;cases hf
   ·rintro⟨it,hit,e⟩;exact absurd (by omega) (hnot it hit)
  ·rw[ai _ _ _ _ e,h.there s hs]
   constructor
   ·rintro⟨it,hit,e'⟩
    rcases List.mem_append.1 hit with q|q
    ·exact⟨it,List.mem_append_left _ q,e'⟩
    ·rcases List.mem_cons.1 q with q|q
     ·subst q;exact absurd e'.symm e
     ·exact⟨it,List.mem_append_right _ q,e'⟩
   ·rintro⟨it,hit,e'⟩;exact⟨it,hmem it hit,e'⟩
 ·intro it hit
  rw[ai _ _ _ _ (by have:=hnot it hit;omega)]
  exact h.gJ it (hmem it hit)
 ·intro s hs ht
  by_cases e:s=id+1
  ·subst e;exact aj _ _ _
  ·rw[ai _ _ _ _ e] at ht⊢;exact h.nolev s hs ht
 ·intro k hk
  by_cases e:k=lv
  ·subst e
   rw[dD]
   refine jF A B A' B' (id+1) (QL R2 k) (QL R1 k) 0 hnd hch (fun s hs=> ?_) (fun s hs=> ?_) (fun s hs=> ?_) (fun s hs=> ?_)
   ·rw[hA s (hn1 s hs),if_neg]
    rintro⟨hne,e⟩
    exact hn12 s hs (by rw[e];exact fS _ hne)
   ·rw[hA s (hn2 s hs)]
    have hne:QL R2 k≠[]:=by intro e;rw[e] at hs;cases hs
    by_cases e:s=(QL R2 k).headD 0
    ·rw[if_pos ⟨hne,e⟩,if_pos e]
    ·rw[if_neg (fun q=>e q.2),if_neg e]
   ·rw[hB s (hn1 s hs)]
    have hne:QL R1 k≠[]:=by intro e;rw[e] at hs;cases hs
    by_cases e:s=(QL R1 k).getLastD 0
    ·rw[if_pos ⟨hne,e⟩,if_pos e]
    ·rw[if_neg (fun q=>e q.2),if_neg e]
   ·rw[hB s (hn2 s hs),if_neg]
    rintro⟨hne,e⟩
    exact hn12 s (by rw[e];exact cP _ _ hne) hs
  ·rw[←hqo k e]
   refine ez A B A' B' _ _ (fun s hs=> ?_) (h.ch k hk)
   have hv:=(h.eU hs).2.2.1
   have hns:s≠id+1:=by
    rintro rfl
    have:=h.gJ (id,lv) (by simp)
    simp only at this
    omega
   constructor
   ·rw[hA s hns,if_neg]
    rintro⟨hne,e'⟩
    have hin:s∈QL (R1++(id,lv)::R2) lv:=by rw[hq,e'];exact List.mem_append_right _ (List.mem_cons_of_mem _ (fS _ hne))
    have:=(h.eU hin).2.2.1
    omega
   ·rw[hB s hns,if_neg]
    rintro⟨hne,e'⟩
    have hin:s∈QL (R1++(id,lv)::R2) lv:=by rw[hq,e'];exact List.mem_append_left _ (cP _ _ hne)
    have:=(h.eU hin).2.2.1
    omega
 ·intro k hk
  rw[hF k hk]
  by_cases e:k=lv
  ·subst e
   rw[dD]
   by_cases e1:QL R1 k=[]
   ·rw[if_pos ⟨rfl,e1⟩,e1];rfl
   ·rw[if_neg (fun q=>e1 q.2),h.hd k hk,hq]
    cases hx:QL R1 k with
    |nil=>exact absurd hx e1
    |cons x xs=>rfl
  ·rw[if_neg (fun q=>e q.1),h.hd k hk,hqo k e]
 ·intro k hk
  rw[hL k hk]
  by_cases e:k=lv
  ·subst e
   rw[dD]
   by_cases e1:QL R2 k=[]
   ·rw[if_pos ⟨rfl,e1⟩,e1,List.append_nil]
   ·rw[if_neg (fun q=>e1 q.2),h.tl k hk,hq]
    cases hx:QL R2 k with
    |nil=>exact absurd hx e1
    |cons x xs=>simp[List.getLastD_eq_getLast?]
  ·rw[if_neg (fun q=>e q.1),h.tl k hk,hqo k e]
 ·intro k hk
  rw[hm k hk]
  by_cases e:k=lv
  ·subst e;rw[if_pos rfl,dD]
  ·rw[if_neg e,h.bit k hk,hqo k e]
 ·have:=h.cnt
  simp at this⊢
  omega
end
open Go.RowKit
theorem lT: ∀(n:Nat) (l:List Nat),l.Nodup→(∀x∈l,x<n)→l.length≤n
 |0,l,_,h=>by
  cases l with
  |nil=>simp
  |cons x xs=>exact absurd (h x (by simp)) (by omega)
 |n+1,l,hn,h=>by
  have h1:(l.erase n).length≤n:=lT n (l.erase n) (hn.erase n) (fun x hx=>by
   have:=h x (List.mem_of_mem_erase hx)
   have hne:x≠n:=((List.Nodup.mem_erase_iff hn).1 hx).1
   omega)
  by_cases hm:n∈l
  ·rw[List.length_erase_of_mem hm] at h1;omega
  ·rw[List.erase_of_not_mem hm] at h1;omega
def cD (w:World) (b g n:Nat) (R:List (Nat×Nat)):Prop:=
 n≤1024∧ ∃(F L m:Nat→Nat) (c:Nat) (A B V:Nat→Nat) (T:Nat→Bool),aJ w b g n F L (fun i=>(m i:Int)) c A B V T∧Inv n F L m c A B V T R
theorem cD.kept {w w':World} {b g n:Nat} {R:List (Nat×Nat)} (h:cD w b g n R) (hb:w'.heap[b]? =w.heap[b]?) (hg:w'.heap[g]? =w.heap[g]?):cD w' b g n R:=by
 obtain⟨hn,F,L,m,c,A,B,V,T,hr,hi⟩:=h
 exact⟨hn,F,L,m,c,A,B,V,T,hr.kept hb hg,hi⟩
theorem cD.blocks {w:World} {b g n:Nat} {R:List (Nat×Nat)} (h:cD w b g n R):b<w.heap.size∧g<w.heap.size∧b≠g:=by
 obtain⟨hn,F,L,m,c,A,B,V,T,hr,hi⟩:=h
 exact⟨hr.eF,hr.eW,hr.bg⟩
theorem cD.fF {w:World} {b g n:Nat} {R:List (Nat×Nat)} (h:cD w b g n R):R.length≤n∧n≤1024:=by
 obtain⟨hn,F,L,m,c,A,B,V,T,hr,hi⟩:=h
 have:=lT n (R.map (·.1)) hi.ids (fun x hx=>by obtain⟨it,a,rfl⟩:=List.mem_map.1 hx;exact(hi.jt it a).1)
 rw[List.length_map] at this
 exact⟨this,hn⟩
theorem rP (m:Nat→Nat) (k x:Nat):ax (fun i=>(m i:Int)) k (x:Int)=fun i=>((ax m k x i:Nat):Int):=by
 funext i
 unfold ax
 split<;>rfl
theorem BI (w:World) (b g n:Nat) (R:List (Nat×Nat)) (id lv:Nat) (h:cD w b g n R) (hi:id<n) (hlv:lv<256) (hid: ∀it∈R,it.1≠id):
  Calls Tryz.prog 220 #[.pointer (some ⟨b,0,none⟩),.int .u8 lv,.int .i64 ((id+1:Nat):Int)] w fun e w'=>e= .returned (.tuple #[])∧cD w' b g n (R++[(id,lv)])∧aS b g w w':=by
 have hlen:=h.fF
 obtain⟨hn,F,L,m,c,A,B,V,T,hr,hv⟩:=h
 have hc:=hv.cnt
 by_cases h0:L lv=0
 ·have he:=(hv.last_zero lv hlv).1 h0
  refine(vV hr lv (id+1) hlv (by omega) hn (by omega) h0).mono ?_
  rintro e w' ⟨he',hrep,honly⟩
  refine⟨he',⟨hn,_,_,ax m (lv/64) (m (lv/64)|||2^(lv%64)),_,_,_,_,_,?_,mN hv hi hlv hid he⟩,honly⟩
  rw[←rP,←wv _ _ (hv.mlt _ (by omega))]
  exact hrep
 ·have he:QL R lv≠[]:=fun e=>h0 ((hv.last_zero lv hlv).2 e)
  have hlm:L lv∈QL R lv:=by rw[hv.tl lv hlv];exact cP _ _ he
  obtain⟨q1,_,_,q4⟩:=hv.eU hlm
  refine(yF hr lv (id+1) (L lv) hlv (by omega) hn (by omega) rfl q4 q1 (fun e=>dV hid lv (e▸hlm))).mono ?_
  rintro e w' ⟨he',hrep,honly⟩
  exact⟨he',⟨hn,_,_,m,_,_,_,_,_,hrep,nQ hv hi hlv hid he⟩,honly⟩
theorem xH (w:World) (b g n:Nat) (R1 R2:List (Nat×Nat)) (id lv:Nat) (h:cD w b g n (R1++(id,lv)::R2)):
  Calls Tryz.prog 198 #[.pointer (some ⟨b,0,none⟩),.int .i64 ((id+1:Nat):Int)] w fun e w'=>e= .returned (.tuple #[])∧cD w' b g n (R1++R2)∧aS b g w w':=by
 have hlen:=h.fF
 obtain⟨hn,F,L,m,c',A,B,V,T,hr,hv⟩:=h
 obtain⟨c,rfl⟩: ∃c,c'=c+1:=⟨c'-1,by have:=hv.cnt;simp at this;omega⟩
 have hc:=hv.cnt
 have hcc:c≤1024:=by omega
 have hlv:lv<256:=(hv.jt (id,lv) (by simp)).2
 have hid:id<n:=(hv.jt (id,lv) (by simp)).1
 have hV:V (id+1)=lv:=hv.gJ (id,lv) (by simp)
 have hq:QL (R1++(id,lv)::R2) lv=QL R1 lv++(id+1)::QL R2 lv:=by rw[dD,o6,if_pos rfl]
 have hch:=hv.ch lv hlv
 rw[hq] at hch
 obtain⟨hA,hB,_⟩:=oe A B (id+1) (QL R2 lv) (QL R1 lv) 0 hch
 have hnd:=mM hv.ids lv
 rw[hq,List.nodup_append,List.nodup_cons] at hnd
 have hin1: ∀s∈QL R1 lv,s≤n∧1≤s∧s≠id+1:=fun s hs=>by
  obtain⟨a,_,_,d⟩:=hv.eU (show s∈QL (R1++(id,lv)::R2) lv by rw[hq];simp[hs])
  exact⟨a,d,fun e=>hnd.2.2 s hs (id+1) (by simp) e⟩
 have hin2: ∀s∈QL R2 lv,s≤n∧1≤s∧s≠id+1:=fun s hs=>by
  obtain⟨a,_,_,d⟩:=hv.eU (show s∈QL (R1++(id,lv)::R2) lv by rw[hq];simp[hs])
  exact⟨a,d,fun e=>hnd.2.1.1 (e▸hs)⟩
 have hFl:F lv≠0:=fun e=>by
  have:=(hv.sm lv hlv).1 e
  rw[hq] at this
  simp at this
 by_cases e1:QL R1 lv=[]
 ·by_cases e2:QL R2 lv=[]
  ·-- it stands alone
   rw[e1] at hA
   rw[e2] at hB
   refine(sK hr (id+1) lv (by omega) hlv hn hcc hA hB hV).mono ?_
   rintro e w' ⟨he',hrep,honly⟩
   refine⟨he',⟨hn,_,_,ax m (lv/64) (m (lv/64)&&&(18446744073709551615-2^(lv%64))),_,_,_,_,_,?_,lG hv (ax F lv 0) (ax L lv 0) _ (ax A (id+1) 0) (ax B (id+1) 0) ?_ ?_ ?_ ?_ ?_ ?_⟩,honly⟩
   ·rw[←rP,←sg _ _ (hv.mlt _ (by omega))];exact hrep
   ·intro k _;rw[e1,e2];unfold ax;by_cases q:k=lv<;>simp[q]
   ·intro k _;rw[e1,e2];unfold ax;by_cases q:k=lv<;>simp[q]
   ·intro s hs;rw[e2,ai _ _ _ _ hs];simp
   ·intro s hs;rw[e1,ai _ _ _ _ hs];simp
   ·intro k hk
    by_cases q:k=lv
    ·subst q;rw[if_pos rfl,aj,vb _ _ _ (by omega) (by omega),e1,e2];simp
    ·rw[if_neg q]
     by_cases q2:k/64=lv/64
     ·rw[q2,aj,vb _ _ _ (by omega) (by omega)]
      have: ¬lv%64=k%64:=by omega
      simp[this]
     ·rw[ai _ _ _ _ q2]
   ·intro i hi'
    by_cases q:i=lv/64
    ·subst q;rw[aj];exact Ej _ _ (hv.mlt _ hi')
    ·rw[ai _ _ _ _ q];exact hv.mlt i hi'
  ·-- the first one
   rw[e1] at hA
   obtain⟨y1,y2,y3⟩:=hin2 _ (fS _ e2)
   refine(su hr (id+1) lv (by omega) hlv hn hcc ((QL R2 lv).headD 0) hA hB hV y1 y2 y3).mono ?_
   rintro e w' ⟨he',hrep,honly⟩
   refine⟨he',⟨hn,_,_,m,_,_,_,_,_,hrep,lG hv _ _ _ _ _ ?_ ?_ ?_ ?_ ?_ hv.mlt⟩,honly⟩
   ·intro k _;unfold ax;by_cases q:k=lv<;>simp[q,e1]
   ·intro k _;rw[if_neg (fun q=>e2 q.2)]
   ·intro s hs
    rw[ai _ _ _ _ hs,e1]
    unfold ax
    by_cases q:s=(QL R2 lv).headD 0
    ·rw[if_pos q,if_pos ⟨e2,q⟩];rfl
    ·rw[if_neg q,if_neg (fun z=>q z.2)]
   ·intro s hs;rw[ai _ _ _ _ hs,if_neg (fun z=>z.1 e1)]
   ·intro k hk
    by_cases q:k=lv
    ·subst q
     rw[if_pos rfl,hv.bit k hk,hq]
     cases hx:QL R2 k with
     |nil=>exact absurd hx e2
     |cons x xs=>simp[e1]
    ·rw[if_neg q]
 ·by_cases e2:QL R2 lv=[]
  ·-- the last one
   rw[e2] at hB
   obtain⟨x1,x2,x3⟩:=hin1 _ (cP _ 0 e1)
   refine(sq hr (id+1) lv (by omega) hlv hn hcc ((QL R1 lv).getLastD 0) (F lv) hA hB hV rfl (by omega) x1 x2 x3).mono ?_
   rintro e w' ⟨he',hrep,honly⟩
   refine⟨he',⟨hn,_,_,m,_,_,_,_,_,hrep,lG hv _ _ _ _ _ ?_ ?_ ?_ ?_ ?_ hv.mlt⟩,honly⟩
   ·intro k _;rw[if_neg (fun q=>e1 q.2)]
   ·intro k _;unfold ax;by_cases q:k=lv<;>simp[q,e2]
   ·intro s hs;rw[ai _ _ _ _ hs,if_neg (fun z=>z.1 e2)]
   ·intro s hs
    rw[ai _ _ _ _ hs,e2]
    unfold ax
    by_cases q:s=(QL R1 lv).getLastD 0
    ·rw[if_pos q,if_pos ⟨e1,q⟩];rfl
    ·rw[if_neg q,if_neg (fun z=>q z.2)]
   ·intro k hk
    by_cases q:k=lv
    ·subst q
     rw[if_pos rfl,hv.bit k hk,hq]
     cases hx:QL R1 k with
     |nil=>exact absurd hx e1
     |cons x xs=>simp
    ·rw[if_neg q]
  ·-- one between two others
   obtain⟨x1,x2,x3⟩:=hin1 _ (cP _ 0 e1)
   obtain⟨y1,y2,y3⟩:=hin2 _ (fS _ e2)
   refine(vX hr (id+1) lv (by omega) hlv hn hcc ((QL R1 lv).getLastD 0) ((QL R2 lv).headD 0) (F lv) hA hB hV rfl (by omega) x1 x2 x3 y1 y2 y3).mono ?_
   rintro e w' ⟨he',hrep,honly⟩
   refine⟨he',⟨hn,_,_,m,_,_,_,_,_,hrep,lG hv _ _ _ _ _ ?_ ?_ ?_ ?_ ?_ hv.mlt⟩,honly⟩
   ·intro k _;rw[if_neg (fun q=>e1 q.2)]
   ·intro k _;rw[if_neg (fun q=>e2 q.2)]
   ·intro s hs
    rw[ai _ _ _ _ hs]
    unfold ax
    by_cases q:s=(QL R2 lv).headD 0
    ·rw[if_pos q,if_pos ⟨e2,q⟩]
    ·rw[if_neg q,if_neg (fun z=>q z.2)]
   ·intro s hs
    rw[ai _ _ _ _ hs]
    unfold ax
    by_cases q:s=(QL R1 lv).getLastD 0
    ·rw[if_pos q,if_pos ⟨e1,q⟩]
    ·rw[if_neg q,if_neg (fun z=>q z.2)]
   ·intro k hk
    by_cases q:k=lv
    ·subst q
     rw[if_pos rfl,hv.bit k hk,hq]
     cases hx:QL R1 k with
     |nil=>exact absurd hx e1
     |cons x xs=>simp
    ·rw[if_neg q]
end Go.Proofs.YtdbailcdlngemaaGreatDoor.Bq
namespace Go.Proofs.YtdbailcdlngemaaGreatDoor.Bq
open Go.RowKit Go.Lib
def jK:Value:= .agg #[.int .i64 0,.int .i64 0,.int .u8 0,.bool false]
def bX (n:Nat):Array Value:=madeCells jK.cells ((n+1)*4)
def zeroCells:Array Value:=Array.replicate 512 (.int .i64 0)++(Array.replicate 4 (.int .u64 0)++ #[.slice none 0 0,.int .i64 0])
def bC (g n:Nat):Array Value:=zeroCells.setIfInBounds 516 (.slice (some ⟨g,0,none⟩) (n+1) (n+1))
theorem fa:zeroCells.size=518:=by unfold zeroCells;simp
theorem aA (w:World) (c:Array Value) (t:TypeId) (i:Nat):(w.alloc (.cells c t)).cell? ⟨w.heap.size,i,none⟩=c[i]? :=by
 unfold World.cell?
 simp only[(MapKept.heap_alloc w (.cells c t)).1]
 rfl
theorem aG (w:World) (c:Array Value) (t:TypeId) (i:Nat):(w.alloc (.cells c t)).frozen? ⟨w.heap.size,i,none⟩=false:=by
 unfold World.frozen?
 simp only[(MapKept.heap_alloc w (.cells c t)).1]
 simp
theorem lC (n k:Nat) (h:k<(n+1)*4):(bX n)[k]? =some ((#[Value.int .i64 0,.int .i64 0,.int .u8 0,.bool false]:Array Value)[k%4]!):=by
 unfold bX madeCells jK
 simp[Value.cells,h]
theorem qZ (g n i:Nat) (h:i<512):(bC g n)[i]? =some (.int .i64 0):=by
 unfold bC
 rw[Array.getElem?_setIfInBounds_ne (by omega)]
 unfold zeroCells
 rw[Array.getElem?_append_left (by simpa using h)]
 simp[h]
theorem wB (g n i:Nat) (h:i<4):(bC g n)[512+i]? =some (.int .u64 0):=by
 unfold bC
 rw[Array.getElem?_setIfInBounds_ne (by omega)]
 unfold zeroCells
 rw[Array.getElem?_append_right (by simp)]
 simp only[Array.size_replicate,Nat.add_sub_cancel_left]
 rw[Array.getElem?_append_left (by simpa using h)]
 simp[h]
theorem qy (g n:Nat):(bC g n)[516]? =some (.slice (some ⟨g,0,none⟩) (n+1) (n+1))∧(bC g n)[517]? =some (.int .i64 0):=by
 unfold bC
 constructor
 ·rw[Array.getElem?_setIfInBounds_self_of_lt (by rw[fa];omega)]
 ·rw[Array.getElem?_setIfInBounds_ne (by omega)]
  unfold zeroCells
  rw[Array.getElem?_append_right (by simp)]
  simp only[Array.size_replicate]
  rw[Array.getElem?_append_right (by simp)]
  simp
theorem zS:(Tryz.prog.info? 310).map (fun i=>(i.zero,i.size,i.bytes))=some (some jK,4,24):=by kernel_rfl
theorem Gj (w:World):(zeroValue 219).run Tryz.prog w= .ok (.agg zeroCells) w:=by kernel_rfl
theorem gE (w:World) (n:Nat):
  aJ ((w.alloc (.cells (bX n) 310)).alloc (.cells (bC w.heap.size n) 219)) (w.heap.size+1) w.heap.size n (fun _=>0) (fun _=>0) (fun _=>((0:Nat):Int)) 0 (fun _=>0) (fun _=>0) (fun _=>0) (fun _=>false):=by
 have hb: ∀i,((w.alloc (.cells (bX n) 310)).alloc (.cells (bC w.heap.size n) 219)).cell? ⟨w.heap.size+1,i,none⟩=(bC w.heap.size n)[i]? :=by
  intro i
  have e:w.heap.size+1=(w.alloc (.cells (bX n) 310)).heap.size:=by simp
  rw[e];exact aA _ _ _ _
 have hg: ∀i,((w.alloc (.cells (bX n) 310)).alloc (.cells (bC w.heap.size n) 219)).cell? ⟨w.heap.size,i,none⟩=(bX n)[i]? :=by
  intro i
  rw[←aA w (bX n) 310 i]
  simp only[World.cell?]
  rw[Below.heap_alloc _ _ _ (by simp)]
 have fb: ∀i,((w.alloc (.cells (bX n) 310)).alloc (.cells (bC w.heap.size n) 219)).frozen? ⟨w.heap.size+1,i,none⟩=false:=by
  intro i
  have e:w.heap.size+1=(w.alloc (.cells (bX n) 310)).heap.size:=by simp
  rw[e];exact aG _ _ _ _
 have fg: ∀i,((w.alloc (.cells (bX n) 310)).alloc (.cells (bC w.heap.size n) 219)).frozen? ⟨w.heap.size,i,none⟩=false:=by
  intro i
  rw[←aG w (bX n) 310 i]
  simp only[World.frozen?]
  rw[Below.heap_alloc _ _ _ (by simp)]
 refine⟨by omega,fun i hi=> ?_,fun i hi=> ?_,fun i hi=> ?_,?_,?_,fun s hs=> ?_,fun s hs=> ?_,fun s hs=> ?_,fun s hs=> ?_,fb,fg⟩
 ·rw[hb,qZ _ _ _ (by omega)];rfl
 ·rw[hb,qZ _ _ _ (by omega)];rfl
 ·rw[hb,wB _ _ _ hi];rfl
 ·exact⟨n+1,by rw[hb];exact(qy _ _).1⟩
 ·rw[hb];exact(qy _ _).2
 ·rw[hg,lC n _ (by omega),show s*4%4=0 by omega];rfl
 ·rw[hg,lC n _ (by omega),show(s*4+1)%4=1 by omega];rfl
 ·rw[hg,lC n _ (by omega),show(s*4+2)%4=2 by omega];rfl
 ·rw[hg,lC n _ (by omega),show(s*4+3)%4=3 by omega];rfl
theorem BL (n:Nat):Inv n (fun _=>0) (fun _=>0) (fun _=>0) 0 (fun _=>0) (fun _=>0) (fun _=>0) (fun _=>false) [] where
 ids:=by simp
 jt:=by simp
 there:=by simp
 gJ:=by simp
 nolev:=by simp
 ch:=fun _ _=>trivial
 hd:=fun _ _=>rfl
 tl:=fun _ _=>rfl
 bit:=fun _ _=>by simp[QL]
 mlt:=fun _ _=>by decide
 cnt:=rfl
theorem fL (n:Nat) (w:World) (h1:1≤n) (h2:n≤1024):
  Calls Tryz.prog 71 #[.int .i64 n] w fun e w'=>e= .returned (.pointer (some ⟨w.heap.size+1,0,none⟩))∧cD w' (w.heap.size+1) w.heap.size n []∧Below w.heap.size w w':=by
 obtain⟨i0,hi,hz0,hz1,hz2⟩:=info_parts zS
 have hmk: ∀w,(Instr.makeSlice 215 (.int .i64 ((n:Int)+1)) (.int .i64 ((n:Int)+1))).run Tryz.prog w= .ok (.slice (some ⟨w.heap.size,0,none⟩) (n+1) (n+1)) (w.alloc (.cells (bX n) 310)):=by
  intro w
  have:=run_make w 215 310 i0 jK Tryz.underlying215 hi hz0 .i64 .i64 ((n:Int)+1) ((n:Int)+1) (by omega) (by omega) (by rw[hz2];omega) (by omega)
  rw[hz1,show((n:Int)+1).toNat=n+1 by omega] at this
  exact this
 have hzq:=Gj
 have hzs:=fa
 have hr:=gE w n
 have HR:Hid _:=hr
 clear hr hi hz0 hz1 hz2
 go_enter Tryz.func71,Tryz.ntmps71
 go_wp2
 go_ret
 refine⟨rfl,⟨h2,_,_,fun _=>0,_,_,_,_,_,HR.out,BL n⟩,?_⟩
 exact((Below.refl _ _).alloc (Nat.le_refl _) _).alloc (by simp) _
theorem zy (x:Nat) (h:x<18446744073709551616) (h0:x≠0):2^(Lib.bitLen x-1)≤x∧x<2^Lib.bitLen x∧1≤Lib.bitLen x:=by
 exact tX 64 x h (by omega) h0
theorem Cx (x k:Nat) (h:x<18446744073709551616) (hb:x.testBit k=true):x≠0∧k<Lib.bitLen x:=by
 have h0:x≠0:=by rintro rfl;simp at hb
 refine⟨h0,?_⟩
 apply Classical.byContradiction
 intro hn
 have h1:=(zy x h h0).2.1
 have:x<2^k:=Nat.lt_of_lt_of_le h1 (Nat.pow_le_pow_right (by decide) (by omega))
 rw[Nat.testBit_lt_two_pow this] at hb
 cases hb
theorem lI (x:Nat) (h:x<18446744073709551616) (h0:x≠0):x.testBit (Lib.bitLen x-1)=true:=by
 obtain⟨a,b,c⟩:=zy x h h0
 rw[Nat.testBit_eq_decide_div_mod_eq]
 have e2:Lib.bitLen x=Lib.bitLen x-1+1:=by omega
 rw[e2,Nat.pow_succ] at b
 generalize Lib.bitLen x-1=q at*
 have hq:0<2^q:=Nat.two_pow_pos q
 have d:x/2^q=1:=by apply Nat.div_eq_of_lt_le<;>omega
 rw[d]
 rfl
theorem bQ (x:Nat) (h:x<18446744073709551616):nK (x:Int):=⟨by omega,by omega⟩
theorem uK (m:Nat→Nat) (mlt: ∀i,i<4→m i<18446744073709551616):
  (∀k,k<256→(m (k/64)).testBit (k%64)=true→(k:Int)≤du (m 0) (m 1) (m 2) (m 3))∧
  (∀k:Nat,k<256→du (m 0) (m 1) (m 2) (m 3)=(k:Int)→(m (k/64)).testBit (k%64)=true):=by
 have b0:=bQ _ (mlt 0 (by omega));have b1:=bQ _ (mlt 1 (by omega));have b2:=bQ _ (mlt 2 (by omega));have b3:=bQ _ (mlt 3 (by omega))
 have hge:=Ge (m 0) (m 1) (m 2) (m 3) b0 b1 b2 b3
 simp only[Int.toNat_natCast] at hge
 constructor
 ·intro k hk hb
  have hj:k/64=0∨k/64=1∨k/64=2∨k/64=3:=by omega
  obtain⟨n0,nl⟩:=Cx _ _ (mlt (k/64) (by omega)) hb
  rcases hj with e|e|e|e<;>rw[e] at n0 nl
  ·have:=hge.1 (by omega);omega
  ·have:=hge.2.1 (by omega);omega
  ·have:=hge.2.2.1 (by omega);omega
  ·have:=hge.2.2.2 (by omega);omega
 ·intro k hk hH
  have hat:=Gz (m 0) (m 1) (m 2) (m 3) b0 b1 b2 b3 ((k%64:Nat):Int) (by omega) (by omega)
  simp only[Int.toNat_natCast] at hat
  have hj:k/64=0∨k/64=1∨k/64=2∨k/64=3:=by omega
  rcases hj with e|e|e|e<;>rw[e]
  ·obtain⟨n0,nl⟩:=hat.1 (by omega)
   rw[show k%64=Lib.bitLen (m 0)-1 by omega];exact lI _ (mlt 0 (by omega)) (by omega)
  ·obtain⟨n0,nl⟩:=hat.2.1 (by omega)
   rw[show k%64=Lib.bitLen (m 1)-1 by omega];exact lI _ (mlt 1 (by omega)) (by omega)
  ·obtain⟨n0,nl⟩:=hat.2.2.1 (by omega)
   rw[show k%64=Lib.bitLen (m 2)-1 by omega];exact lI _ (mlt 2 (by omega)) (by omega)
  ·obtain⟨n0,nl⟩:=hat.2.2.2 (by omega)
   rw[show k%64=Lib.bitLen (m 3)-1 by omega];exact lI _ (mlt 3 (by omega)) (by omega)
def Ep (R:List (Nat×Nat)) (lv:Nat):Prop:=lv<256∧QL R lv≠[]∧ ∀k,k<256→lv<k→QL R k=[]
theorem CW {n:Nat} {F L m:Nat→Nat} {c:Nat} {A B V:Nat→Nat} {T:Nat→Bool} {R:List (Nat×Nat)} (h:Inv n F L m c A B V T R) {lv:Nat} (hb:Ep R lv):du (m 0) (m 1) (m 2) (m 3)=(lv:Int):=by
 obtain⟨h1,h2,h3⟩:=hb
 obtain⟨g1,g2⟩:=uK m h.mlt
 have hbd:=DY (m 0) (m 1) (m 2) (m 3) (bQ _ (h.mlt 0 (by omega))) (bQ _ (h.mlt 1 (by omega))) (bQ _ (h.mlt 2 (by omega))) (bQ _ (h.mlt 3 (by omega)))
 have hle:=g1 lv h1 (by rw[h.bit lv h1];cases hq:QL R lv with|nil=>exact absurd hq h2|cons x xs=>rfl)
 apply Classical.byContradiction
 intro hne
 obtain⟨k,hk⟩: ∃k:Nat,du (m 0) (m 1) (m 2) (m 3)=(k:Int):=⟨(du (m 0) (m 1) (m 2) (m 3)).toNat,by omega⟩
 have hb:=g2 k (by omega) hk
 rw[h.bit k (by omega),h3 k (by omega) (by omega)] at hb
 simp at hb
theorem xQ {n:Nat} {F L m:Nat→Nat} {c:Nat} {A B V:Nat→Nat} {T:Nat→Bool} (h:Inv n F L m c A B V T []):du (m 0) (m 1) (m 2) (m 3)= -1:=by
 obtain⟨g1,g2⟩:=uK m h.mlt
 have hbd:=DY (m 0) (m 1) (m 2) (m 3) (bQ _ (h.mlt 0 (by omega))) (bQ _ (h.mlt 1 (by omega))) (bQ _ (h.mlt 2 (by omega))) (bQ _ (h.mlt 3 (by omega)))
 apply Classical.byContradiction
 intro hne
 obtain⟨k,hk⟩: ∃k:Nat,du (m 0) (m 1) (m 2) (m 3)=(k:Int):=⟨(du (m 0) (m 1) (m 2) (m 3)).toNat,by omega⟩
 have hb:=g2 k (by omega) hk
 rw[h.bit k (by omega)] at hb
 simp[QL] at hb
section
variable {w:World} {b g n:Nat} {F L:Nat→Nat} {M:Nat→Int} {c:Nat} {A B V:Nat→Nat} {T:Nat→Bool}
theorem qv (h:aJ w b g n F L M c A B V T):
  Calls Tryz.prog 214 #[.pointer (some ⟨b,0,none⟩)] w fun e w'=>e= .returned (.agg #[.int .u64 (M 0),.int .u64 (M 1),.int .u64 (M 2),.int .u64 (M 3)])∧ ∃d:Array Value,w'=w.alloc (.cells d 217):=by
 have e0:w.cell? ⟨b,512,none⟩=some (.int .u64 (M 0)):=h.msk 0 (by omega)
 have e1:w.cell? ⟨b,513,none⟩=some (.int .u64 (M 1)):=h.msk 1 (by omega)
 have e2:w.cell? ⟨b,514,none⟩=some (.int .u64 (M 2)):=h.msk 2 (by omega)
 have e3:w.cell? ⟨b,515,none⟩=some (.int .u64 (M 3)):=h.msk 3 (by omega)
 have zb:=h.eF
 have yb: ¬b=w.heap.size:=by omega
 clear h
 go_enter Tryz.func214,Tryz.ntmps214
 go_wp2
 simp[bodyPost,results,Tryz.results214,go_sem]
 exact⟨_,rfl⟩
theorem Cd (h:aJ w b g n F L M c A B V T):
  Calls Tryz.prog 170 #[.pointer (some ⟨b,0,none⟩)] w fun e w'=>e= .returned (.int .i64 c)∧w'=w:=by
 have e0:=h.cn
 clear h
 go_enter Tryz.func170,Tryz.ntmps170
 go_wp2
 go_ret
 exact⟨rfl,rfl⟩
theorem fx (h:aJ w b g n F L M c A B V T) (id:Nat) (hn:n≤1024) (hid:id<n):
  Calls Tryz.prog 196 #[.pointer (some ⟨b,0,none⟩),.int .i64 id] w fun e w'=>e= .returned (.bool true)∧w'=w:=by
 obtain⟨cp,e0⟩:=h.sl
 clear h
 go_enter Tryz.func196,Tryz.ntmps196
 go_wp2
 go_ret
 exact⟨by simp,rfl⟩
end
theorem aa {p:Prop} (h:p):Hid p:=h
theorem cD.below {w w':World} {b g n:Nat} {R:List (Nat×Nat)} (h:cD w b g n R) (hw:Below w.heap.size w w'):cD w' b g n R:=
 h.kept (hw.block b h.blocks.1) (hw.block g h.blocks.2.1)
theorem CJ (w:World) (b g n:Nat) (R:List (Nat×Nat)) (id lv:Nat) (h:cD w b g n R) (hi:id<n) (hlv:lv<256) (hid: ∀it∈R,it.1≠id):
  Calls Tryz.prog 201 #[.pointer (some ⟨b,0,none⟩),.int .u8 lv,.int .i64 id] w fun e w'=>e= .returned (.int .i64 0)∧cD w' b g n (R++[(id,lv)])∧aS b g w w':=by
 have HT:=aa (BI w b g n R id lv h hi hlv hid)
 obtain⟨hn,F,L,m,c,A,B,V,T,hr,hv⟩:=h
 have HM:=aa (fx hr id hn hi)
 have ht:T (id+1)=false:=by
  cases hq:T (id+1) with
  |false=>rfl
  |true=>
   obtain⟨it,a,e⟩:=(hv.there (id+1) (by omega)).1 hq
   exact absurd (by omega) (hid it a)
 obtain⟨cp,e0⟩:=hr.sl
 have e1:=hr.lt (id+1) (by omega)
 rw[ht] at e1
 clear hr hv ht
 go_enter Tryz.func201,Tryz.ntmps201
 go_wp2_with (first
  |(go_at_call 196;refine(HM.out).mono ?_;rintro e w' ⟨rfl,hw⟩;subst hw)
  |(go_at_call 220;refine(HT.out).mono ?_;rintro e w' ⟨rfl,hq,ho⟩;have HQ:=aa (hq);have HO:=aa (ho);clear hq ho))
 go_ret
 exact⟨rfl,HQ.out,HO.out⟩
theorem AP (w:World) (b g n:Nat) (R:List (Nat×Nat)) (id lv:Nat) (rest:List Nat) (h:cD w b g n R) (hb:Ep R lv) (hq:QL R lv=(id+1)::rest):
  Calls Tryz.prog 193 #[.pointer (some ⟨b,0,none⟩)] w fun e w'=>e= .returned (.tuple #[.int .u8 lv,.int .i64 id,.bool true])∧Below w.heap.size w w':=by
 obtain⟨hn,F,L,m,c,A,B,V,T,hr,hv⟩:=h
 have hhi:=CW hv hb
 have hlv:=hb.1
 have HM:=aa (qv hr)
 have w0:=bQ _ (hv.mlt 0 (by omega));have w1:=bQ _ (hv.mlt 1 (by omega));have w2:=bQ _ (hv.mlt 2 (by omega));have w3:=bQ _ (hv.mlt 3 (by omega))
 have hH: ∀w,Calls Tryz.prog 213 #[.agg #[.int .u64 (m 0),.int .u64 (m 1),.int .u64 (m 2),.int .u64 (m 3)]] w fun e w'=>e= .returned (.int .i64 lv)∧ ∃c:Array Value,w'=w.alloc (.cells c 217):=by
  intro w
  have:=lp (m 0) (m 1) (m 2) (m 3) w w0 w1 w2 w3
  rw[hhi] at this
  exact this
 have HH:=aa (hH)
 have e0:=hr.fst lv hlv
 rw[hv.hd lv hlv,hq] at e0
 have e0':w.cell? ⟨b,lv,none⟩=some (.int .i64 ((id:Int)+1)):=e0
 have hidn:id+1≤n:=(hv.eU (show id+1∈QL R lv by rw[hq];simp)).1
 have zb:=hr.eF
 have yb: ¬b=w.heap.size:=by omega
 have yb1: ¬b=w.heap.size+1:=by omega
 clear hr hv hhi hH e0 w0 w1 w2 w3 hb hq
 go_enter Tryz.func193,Tryz.ntmps193
 go_wp2_with (first
  |(go_at_call 214;refine(HM.out).mono ?_;rintro e w' ⟨rfl,d,hw⟩;subst hw)
  |(go_at_call 213;refine(HH.out _).mono ?_;rintro e w' ⟨rfl,d2,hw⟩;subst hw))
 go_quiet (fail)
 go_wp2
 go_ret3
 exact⟨rfl,below_drewN (((Below.refl _ _).alloc (Nat.le_refl _) _).alloc (by simp) _) _⟩
theorem cD.jt {w:World} {b g n:Nat} {R:List (Nat×Nat)} (h:cD w b g n R): ∀it∈R,it.1<n∧it.2<256:=by
 obtain⟨hn,F,L,m,c,A,B,V,T,hr,hv⟩:=h
 exact hv.jt
theorem vI (w:World) (b g n:Nat) (h:cD w b g n []):
  ∃m0 m1 m2 m3:Int,(Calls Tryz.prog 214 #[.pointer (some ⟨b,0,none⟩)] w fun e w'=>e= .returned (.agg #[.int .u64 m0,.int .u64 m1,.int .u64 m2,.int .u64 m3])∧ ∃d:Array Value,w'=w.alloc (.cells d 217))∧
   ∀w,Calls Tryz.prog 213 #[.agg #[.int .u64 m0,.int .u64 m1,.int .u64 m2,.int .u64 m3]] w fun e w'=>e= .returned (.int .i64 (-1))∧ ∃d:Array Value,w'=w.alloc (.cells d 217):=by
 obtain⟨hn,F,L,m,c,A,B,V,T,hr,hv⟩:=h
 have hhi:=xQ hv
 refine⟨m 0,m 1,m 2,m 3,qv hr,fun w=> ?_⟩
 have:=lp (m 0) (m 1) (m 2) (m 3) w (bQ _ (hv.mlt 0 (by omega))) (bQ _ (hv.mlt 1 (by omega))) (bQ _ (hv.mlt 2 (by omega))) (bQ _ (hv.mlt 3 (by omega)))
 rw[hhi] at this
 exact this
theorem Ec (w:World) (b g n:Nat) (R:List (Nat×Nat)) (h:cD w b g n R):
  Calls Tryz.prog 170 #[.pointer (some ⟨b,0,none⟩)] w fun e w'=>e= .returned (.int .i64 (R.length:Int))∧w'=w:=by
 obtain⟨hn,F,L,m,c,A,B,V,T,hr,hv⟩:=h
 rw[←hv.cnt]
 exact Cd hr
end Go.Proofs.YtdbailcdlngemaaGreatDoor.Bq
namespace Go.Proofs.YtdbailcdlngemaaGreatDoor.Bq
open Go.RowKit
section
variable {w:World} {b g n:Nat} {R R1 R2:List (Nat×Nat)} {id lv:Nat}
theorem cD.sl (h:cD w b g n R): ∃cp,w.cell? ⟨b,516,none⟩=some (.slice (some ⟨g,0,none⟩) (n+1) cp):=by
 obtain⟨hn,F,L,m,c,A,B,V,T,hr,hv⟩:=h
 exact hr.sl
theorem Fy (h:cD w b g n R) (id:Int) (hi:id<0∨(n:Int)≤id):
  Calls Tryz.prog 196 #[.pointer (some ⟨b,0,none⟩),.int .i64 id] w fun e w'=>e= .returned (.bool false)∧w'=w:=by
 obtain⟨cp,e0⟩:=h.sl
 have hn:=h.fF.2
 clear h
 by_cases h0:id<0
 ·go_enter Tryz.func196,Tryz.ntmps196
  go_wp2
  go_ret
  exact⟨rfl,rfl⟩
 ·have h1: ¬id<(n:Int):=by omega
  have h2:(n:Int)≤id:=by omega
  clear hi
  go_enter Tryz.func196,Tryz.ntmps196
  go_wp2
  go_ret
  exact⟨by simp,rfl⟩
theorem gV (h:cD w b g n R) (hi:id<n):
  Calls Tryz.prog 196 #[.pointer (some ⟨b,0,none⟩),.int .i64 id] w fun e w'=>e= .returned (.bool true)∧w'=w:=by
 obtain⟨hn,F,L,m,c,A,B,V,T,hr,hv⟩:=h
 exact fx hr id hn hi
theorem pS (h:cD w b g n R) (id:Int) (hi:id<0∨(n:Int)≤id):
  Calls Tryz.prog 186 #[.pointer (some ⟨b,0,none⟩),.int .i64 id] w fun e w'=>e= .returned (.int .i64 2)∧w'=w:=by
 have HM:=aa (Fy h id hi)
 clear h hi
 go_enter Tryz.func186,Tryz.ntmps186
 go_wp2_with (go_at_call 196;refine(HM.out).mono ?_;rintro e w' ⟨rfl,hw⟩;subst hw)
 go_ret
 exact⟨rfl,rfl⟩
theorem cD.link (h:cD w b g n R) (hi:id<n): ∃(lv:Nat) (t:Bool),w.cell? ⟨g,(id+1)*4+2,none⟩=some (.int .u8 lv)∧w.cell? ⟨g,(id+1)*4+3,none⟩=some (.bool t)∧(t=true→(id,lv)∈R)∧(t=false→lv=0∧ ∀it∈R,it.1≠id)∧
  ∃x y:Nat,w.cell? ⟨g,(id+1)*4,none⟩=some (.int .i64 x)∧w.cell? ⟨g,(id+1)*4+1,none⟩=some (.int .i64 y):=by
 obtain⟨hn,F,L,m,c,A,B,V,T,hr,hv⟩:=h
 refine⟨V (id+1),T (id+1),hr.lv (id+1) (by omega),hr.lt (id+1) (by omega),fun ht=> ?_,fun ht=> ?_,A (id+1),B (id+1),hr.la (id+1) (by omega),hr.lb (id+1) (by omega)⟩
 ·obtain⟨it,a,e⟩:=(hv.there (id+1) (by omega)).1 ht
  have:=hv.gJ it a
  have e2:it.1=id:=by omega
  rw[e2] at this
  rw[this,←e2]
  exact a
 ·refine⟨hv.nolev (id+1) (by omega) ht,fun it hit e=> ?_⟩
  have:=(hv.there (id+1) (by omega)).2 ⟨it,hit,by omega⟩
  rw[ht] at this
  cases this
theorem Eb (h:cD w b g n (R1++(id,lv)::R2)) (l0:Nat):
  Calls Tryz.prog 201 #[.pointer (some ⟨b,0,none⟩),.int .u8 l0,.int .i64 id] w fun e w'=>e= .returned (.int .i64 5)∧w'=w:=by
 have hi:=(h.jt (id,lv) (by simp)).1
 have HM:=aa (gV h hi)
 obtain⟨l,t,_,e1,_,ht,_⟩:=h.link hi
 obtain⟨cp,e0⟩:=h.sl
 have hn:=h.fF.2
 have tt:t=true:=by
  cases t with
  |true=>rfl
  |false=>exact absurd rfl ((ht rfl).2 (id,lv) (by simp))
 subst tt
 clear h ht
 go_enter Tryz.func201,Tryz.ntmps201
 go_wp2_with (go_at_call 196;refine(HM.out).mono ?_;rintro e w' ⟨rfl,hw⟩;subst hw)
 go_ret
 exact⟨rfl,rfl⟩
theorem lx (h:cD w b g n R) (hi:id<n) (hid: ∀it∈R,it.1≠id):
  Calls Tryz.prog 186 #[.pointer (some ⟨b,0,none⟩),.int .i64 id] w fun e w'=>e= .returned (.int .i64 6)∧w'=w:=by
 have HM:=aa (gV h hi)
 obtain⟨l,t,_,e1,ht,_,_⟩:=h.link hi
 obtain⟨cp,e0⟩:=h.sl
 have hn:=h.fF.2
 have tt:t=false:=by
  cases t with
  |false=>rfl
  |true=>exact absurd rfl (hid _ (ht rfl))
 subst tt
 clear h ht hid
 go_enter Tryz.func186,Tryz.ntmps186
 go_wp2_with (go_at_call 196;refine(HM.out).mono ?_;rintro e w' ⟨rfl,hw⟩;subst hw)
 go_ret
 exact⟨rfl,rfl⟩
theorem rG (h:cD w b g n (R1++(id,lv)::R2)):
  Calls Tryz.prog 186 #[.pointer (some ⟨b,0,none⟩),.int .i64 id] w fun e w'=>e= .returned (.int .i64 0)∧cD w' b g n (R1++R2)∧aS b g w w':=by
 have hi:=(h.jt (id,lv) (by simp)).1
 have HM:=aa (gV h hi)
 have HU:=aa (xH w b g n R1 R2 id lv h)
 obtain⟨l,t,_,e1,_,ht,_⟩:=h.link hi
 obtain⟨cp,e0⟩:=h.sl
 have hn:=h.fF.2
 have tt:t=true:=by
  cases t with
  |true=>rfl
  |false=>exact absurd rfl ((ht rfl).2 (id,lv) (by simp))
 subst tt
 clear h ht
 go_enter Tryz.func186,Tryz.ntmps186
 go_wp2_with (first
  |(go_at_call 196;refine(HM.out).mono ?_;rintro e w' ⟨rfl,hw⟩;replace hw:=hw.symm;subst hw)
  |(go_at_call 198;refine(HU.out).mono ?_;rintro e w' ⟨rfl,hq,ho⟩;have HQ:=aa hq;have HO:=aa ho;clear hq ho))
 go_ret
 exact⟨rfl,HQ.out,HO.out⟩
theorem ma (h:cD w b g n R) (hi:id<n) (hid: ∀it∈R,it.1≠id):
  Calls Tryz.prog 184 #[.pointer (some ⟨b,0,none⟩),.int .i64 id] w fun e w'=>e= .returned (.tuple #[.int .u8 0,.bool false])∧Below w.heap.size w w':=by
 have HM:=aa (gV h hi)
 obtain⟨l,t,e2,e1,ht,ht',x,y,e3,e4⟩:=h.link hi
 obtain⟨cp,e0⟩:=h.sl
 have hn:=h.fF.2
 have tt:t=false:=by
  cases t with
  |false=>rfl
  |true=>exact absurd rfl (hid _ (ht rfl))
 subst tt
 obtain⟨rfl,_⟩:=ht' rfl
 clear h ht hid ht'
 go_enter Tryz.func184,Tryz.ntmps184
 go_wp2_with (go_at_call 196;refine(HM.out).mono ?_;rintro e w' ⟨rfl,hw⟩;replace hw:=hw.symm;subst hw)
 go_quiet (fail)
 go_wp2
 go_ret2
 exact⟨rfl,below_drewN ((Below.refl _ _).alloc (Nat.le_refl _) _) _⟩
theorem sW (h:cD w b g n (R1++(id,lv)::R2)):
  Calls Tryz.prog 184 #[.pointer (some ⟨b,0,none⟩),.int .i64 id] w fun e w'=>e= .returned (.tuple #[.int .u8 lv,.bool true])∧Below w.heap.size w w':=by
 have hi:=(h.jt (id,lv) (by simp)).1
 have HM:=aa (gV h hi)
 obtain⟨l,t,e2,e1,ht,ht',x,y,e3,e4⟩:=h.link hi
 obtain⟨cp,e0⟩:=h.sl
 have hn:=h.fF.2
 have tt:t=true:=by
  cases t with
  |true=>rfl
  |false=>exact absurd rfl ((ht' rfl).2 (id,lv) (by simp))
 subst tt
 have hl:l=lv:=by
  have hm:=ht rfl
  obtain⟨hn,F,L,m,c,A,B,V,T,hr,hv⟩:=h
  have a1:=hv.gJ _ hm
  have a2:=hv.gJ (id,lv) (by simp)
  simp only at a1 a2
  omega
 subst hl
 clear h ht ht'
 go_enter Tryz.func184,Tryz.ntmps184
 go_wp2_with (go_at_call 196;refine(HM.out).mono ?_;rintro e w' ⟨rfl,hw⟩;replace hw:=hw.symm;subst hw)
 go_quiet (fail)
 go_wp2
 go_ret2
 exact⟨rfl,below_drewN ((Below.refl _ _).alloc (Nat.le_refl _) _) _⟩
end
end Go.Proofs.YtdbailcdlngemaaGreatDoor.Bq
namespace Go.Proofs.YtdbailcdlngemaaGreatDoor.Bq
open Go.RowKit Go.Lib
theorem cD.ids {w:World} {b g n:Nat} {R:List (Nat×Nat)} (h:cD w b g n R):(R.map (·.1)).Nodup:=by
 obtain⟨hn,F,L,m,c,A,B,V,T,hr,hv⟩:=h
 exact hv.ids
theorem AD (w:World) (b g n:Nat) (h:cD w b g n []):
  Calls Tryz.prog 193 #[.pointer (some ⟨b,0,none⟩)] w fun e w'=>e= .returned (.tuple #[.int .u8 0,.int .i64 0,.bool false])∧Below w.heap.size w w':=by
 obtain⟨m0,m1,m2,m3,hM,hH⟩:=vI w b g n h
 have HM:=aa hM
 have HH:=aa hH
 clear hM hH h
 go_enter Tryz.func193,Tryz.ntmps193
 go_wp2_with (first
  |(go_at_call 214;refine(HM.out).mono ?_;rintro e w' ⟨rfl,d,hw⟩;subst hw)
  |(go_at_call 213;refine(HH.out _).mono ?_;rintro e w' ⟨rfl,d2,hw⟩;subst hw))
 go_ret3
 exact⟨rfl,((Below.refl _ _).alloc (Nat.le_refl _) _).alloc (by simp) _⟩
end Go.Proofs.YtdbailcdlngemaaGreatDoor.Bq
namespace Go.Proofs.YtdbailcdlngemaaGreatDoor.Ke
open Go.ChangeShapes Go.WideShapes Go.ChangeAt Go.RowKit Go.Deep
def Hid (p:Prop):Prop:=p
theorem aa {p:Prop} (h:p):Hid p:=h
theorem Hid.out {p:Prop} (h:Hid p):p:=h
section
variable {H:Type} {enc:TypeId×Value→H} {w:World} {base:Nat} {spare:Nat→Bool} {held:Bool}
end
end Go.Proofs.YtdbailcdlngemaaGreatDoor.Ke
namespace Go.Proofs.YtdbailcdlngemaaGreatDoor.Ke
open Go.ChangeShapes Go.WideShapes Go.ChangeAt Go.RowKit
structure K where
 e:Bool
 d:Int
 l:Int
deriving DecidableEq
def K.ok (k:K):Prop:=(0≤k.d∧k.d<18446744073709551616)∧0≤k.l∧k.l<256
def up (a b:K):Bool:=if a.e !=b.e then a.e else if a.e then decide (a.d<b.d) else decide (b.l<a.l)
def br (l:Int):K:=⟨false,0,l⟩
def cg (d:Int):K:=⟨true,d,0⟩
def aB (k:K):Bool:=if k.e then k.l==0 else k.d==0
def dO (a b:K):K:=if up b a then b else a
def same (a b:K):Bool:=a.e==b.e&&a.d==b.d&&a.l==b.l
@[go_sem] theorem F4 (b : Int) (w : World) : (Instr.build 130 #[(2, .int .u8 b)]).run Tryz.prog w = .ok (.agg #[.bool false, .int .u64 0, .int .u8 b]) w := run_build w 130 _ _ (by kernel_rfl)
@[go_sem] theorem FQ (e : Bool) (d : Int) (w : World) : (Instr.build 130 #[(0, .bool e), (1, .int .u64 d)]).run Tryz.prog w = .ok (.agg #[.bool e, .int .u64 d, .int .u8 0]) w := run_build w 130 _ _ (by kernel_rfl)
theorem Gh (e e':Bool) (d d' l l':Int) (w:World):(Op.equalIn 10000 130 (.agg #[.bool e,.int .u64 d,.int .u8 l]) (.agg #[.bool e',.int .u64 d',.int .u8 l'])).run Tryz.prog w= .ok (e==e'&&d==d'&&l==l') w:=by
 have u3:=Tryz.underlying39
 have a3:=Tryz.isAgg39
 have z3:=Tryz.sizeOf39
 have u4:=Tryz.underlying4
 have a4:=Tryz.isAgg4
 have z4:=Tryz.sizeOf4
 have u5:=Tryz.underlying5
 have a5:=Tryz.isAgg5
 have z5:=Tryz.sizeOf5
 have hS:Tryz.prog.underlying 130=some (.struct (Tryz.prog.fieldsOf 130)):=by kernel_rfl
 rw[show(10000:Nat)=9999+1 from rfl,run_equalIn_agg w 9999 130 _ _ hS (by kernel_rfl)]
 simp only[Program.fieldsOf,Tryz.underlying130]
 go_simp
 by_cases h1:e=e'<;>by_cases h2:d=d'<;>by_cases h3:l=l'<;>simp[h1,h2,h3]
@[go_sem high] theorem IG (a b : K) (w : World) : (Op.equal 130 (.agg #[.bool a.e, .int .u64 a.d, .int .u8 a.l]) (.agg #[.bool b.e, .int .u64 b.d, .int .u8 b.l])).run Tryz.prog w = .ok (same a b) w := Gh _ _ _ _ _ _ w
@[go_sem high] theorem IH (a b : K) (w : World) : (binOp .eql 130 (.agg #[.bool a.e, .int .u64 a.d, .int .u8 a.l]) (.agg #[.bool b.e, .int .u64 b.d, .int .u8 b.l])).run Tryz.prog w = .ok (.bool (same a b)) w := by
 simp[binOp,go_sem]
theorem FC (w:World) (c c':Array Value) (t t':TypeId):Below w.heap.size w ((w.alloc (.cells c t)).alloc (.cells c' t')):=((Below.refl _ _).alloc (Nat.le_refl _) _).alloc (by simp) _
theorem lW (w:World) (l:Int):Calls Tryz.prog 47 #[.int .u8 l] w fun e w'=>e= .returned (.agg #[.bool (br l).e,.int .u64 (br l).d,.int .u8 (br l).l])∧Below w.heap.size w w':=by
 go_enter Tryz.func47,Tryz.ntmps47
 go_wp2
 simp[bodyPost,results,Tryz.results47,go_sem,br]
 exact(Below.refl _ _).alloc (Nat.le_refl _) _
theorem pB (w:World) (d:Int):Calls Tryz.prog 114 #[.int .u64 d] w fun e w'=>e= .returned (.agg #[.bool (cg d).e,.int .u64 (cg d).d,.int .u8 (cg d).l])∧Below w.heap.size w w':=by
 go_enter Tryz.func114,Tryz.ntmps114
 go_wp2
 simp[bodyPost,results,Tryz.results114,go_sem,cg]
 exact(Below.refl _ _).alloc (Nat.le_refl _) _
theorem ru (w:World) (a b:K):Calls Tryz.prog 101 #[.agg #[.bool a.e,.int .u64 a.d,.int .u8 a.l],.agg #[.bool b.e,.int .u64 b.d,.int .u8 b.l]] w fun e w'=>e= .returned (.bool (up a b))∧ ∃c1 c2,w'=(w.alloc (.cells c1 130)).alloc (.cells c2 130):=by
 unfold up
 go_enter Tryz.func101,Tryz.ntmps101
 cases he:a.e<;>cases he':b.e<;>(go_wp2;go_ret;exact⟨by simp,_,_,rfl⟩)
theorem yQ (w:World) (a b:K):Calls Tryz.prog 101 #[.agg #[.bool a.e,.int .u64 a.d,.int .u8 a.l],.agg #[.bool b.e,.int .u64 b.d,.int .u8 b.l]] w fun e w'=>e= .returned (.bool (up a b))∧Below w.heap.size w w':=
 (ru w a b).mono fun e w' ⟨h,c1,c2,hw⟩=>⟨h,by rw[hw];exact FC _ _ _ _ _⟩
def At (w:World) (b:Nat) (k:K):Prop:=w.cell? ⟨b,0,none⟩=some (.bool k.e)∧w.cell? ⟨b,1,none⟩=some (.int .u64 k.d)∧w.cell? ⟨b,2,none⟩=some (.int .u8 k.l)
theorem At.below {w w':World} {b:Nat} {k:K} (h:At w b k) (hb:Below w.heap.size w w'):At w' b k:=
 ⟨(hb.cell (World.block_lt_of_cell? w _ h.1)).trans h.1,(hb.cell (World.block_lt_of_cell? w _ h.2.1)).trans h.2.1,(hb.cell (World.block_lt_of_cell? w _ h.2.2)).trans h.2.2⟩
theorem DH {w0 w w':World} {b:Nat} {k:K} (h:w.cell? ⟨b,0,none⟩=some (.bool k.e)∧w.cell? ⟨b,1,none⟩=some (.int .u64 k.d)∧w.cell? ⟨b,2,none⟩=some (.int .u8 k.l)∧Below w0.heap.size w0 w) (hb:Below w.heap.size w w'):
  w'.cell? ⟨b,0,none⟩=some (.bool k.e)∧w'.cell? ⟨b,1,none⟩=some (.int .u64 k.d)∧w'.cell? ⟨b,2,none⟩=some (.int .u8 k.l)∧Below w0.heap.size w0 w':=by
 obtain⟨h0,h1,h2,h3⟩:=h
 have:=At.below ⟨h0,h1,h2⟩ hb
 exact⟨this.1,this.2.1,this.2.2,h3.trans (hb.mono h3.size)⟩
theorem pO (w:World) (k:K) (t:TypeId):At (w.alloc (.cells #[.bool k.e,.int .u64 k.d,.int .u8 k.l] t)) w.heap.size k:=by
 refine⟨?_,?_,?_⟩<;>(unfold World.cell?;simp only[(MapKept.heap_alloc w _).1];rfl)
theorem A8 (w:World) (k:K) (t:TypeId):(w.alloc (.cells #[.bool k.e,.int .u64 k.d,.int .u8 k.l] t)).drew.cell? ⟨w.heap.size,0,none⟩=some (.bool k.e)∧(w.alloc (.cells #[.bool k.e,.int .u64 k.d,.int .u8 k.l] t)).drew.cell? ⟨w.heap.size,1,none⟩=some (.int .u64 k.d)∧(w.alloc (.cells #[.bool k.e,.int .u64 k.d,.int .u8 k.l] t)).drew.cell? ⟨w.heap.size,2,none⟩=some (.int .u8 k.l)∧Below w.heap.size w (w.alloc (.cells #[.bool k.e,.int .u64 k.d,.int .u8 k.l] t)).drew:=
 ⟨(pO w k t).1,(pO w k t).2.1,(pO w k t).2.2,((Below.refl _ _).alloc (Nat.le_refl _) _).drew⟩
theorem GJ {w0 w:World} {p q r:Prop} (h:p∧q∧r∧Below w0.heap.size w0 w):Below w0.heap.size w0 w:=h.2.2.2
theorem uO (a b:K):same a b=decide (a=b):=by
 obtain⟨e,d,l⟩:=a
 obtain⟨e',d',l'⟩:=b
 unfold same
 by_cases h1:e=e'<;>by_cases h2:d=d'<;>by_cases h3:l=l'<;>simp[h1,h2,h3]
theorem iy (k:K) (hc:same k (br k.l)=true):aB k=true:=by
 unfold aB;simp[same,br] at hc;simp[hc]
theorem jL (k:K) (hc:same k (br k.l)=false):same k (cg k.d)=aB k:=by
 unfold aB
 cases he:k.e<;>simp[same,br,cg,he] at hc⊢
 exact hc
theorem de (w:World) (k:K):Calls Tryz.prog 112 #[.agg #[.bool k.e,.int .u64 k.d,.int .u8 k.l]] w fun e w'=>e= .returned (.bool (aB k))∧Below w.heap.size w w':=by
 have HF:=aa lW
 have HD:=aa pB
 by_cases hc:same k (br k.l)=true
 ·have HR:=aa (iy k hc)
  go_enter Tryz.func112,Tryz.ntmps112
  go_wp2
  refine wp_region_held_drew (S:=(fun w'=>w'.cell? ⟨w.heap.size,0,none⟩=some (.bool k.e)∧w'.cell? ⟨w.heap.size,1,none⟩=some (.int .u64 k.d)∧w'.cell? ⟨w.heap.size,2,none⟩=some (.int .u8 k.l)∧Below w.heap.size w w')) (by kernel_rfl) ?_ (fun hHeld=> ?_)
  ·exact A8 _ _ _
  refine aF 0 (v:= ?_) rfl ?v0 ?_
  case v0=>(intro w hSw;(try dsimp only at hSw);go_simp;try with_reducible rfl)
  try simp only[ao]
  refine aF 1 (v:= ?_) rfl ?v1 ?_
  case v1=>(intro w hSw;(try dsimp only at hSw);go_simp;try with_reducible rfl)
  try simp only[ao]
  refine aF 2 (v:= ?_) rfl ?v2 ?_
  case v2=>(intro w hSw;(try dsimp only at hSw);go_simp;try with_reducible rfl)
  try simp only[ao]
  refine bc 3 rfl (fun K hK=> ?_)
  go_simp
  refine(HF.out _ _).mono ?_
  rintro e w1 ⟨rfl,hb⟩
  go_wp2_with fail
  refine hK.out _ _ ?_ (fun hHeld=> ?_)
  ·exact DH (by assumption) hb
  clear hK K
  try simp only[ao]
  refine aF 4 (v:= ?_) rfl ?v4 ?_
  case v4=>(intro w hSw;(try dsimp only at hSw);go_simp;try with_reducible rfl)
  try simp only[ao]
  refine aF 5 (v:= ?_) rfl ?v5 ?_
  case v5=>(intro w hSw;(try dsimp only at hSw);go_simp;try with_reducible rfl)
  try simp only[ao]
  refine wpAnyH_take (i:=6) (v:=undef) rfl (by kernel_rfl) (by kernel_rfl) (by kernel_rfl) (fun _ _ _ h=>h) (Or.inr ⟨by rfl,rfl⟩) (by assumption) ?_
  try simp only[ao]
  refine wpAnyH_take (i:=7) (v:=undef) rfl (by kernel_rfl) (by kernel_rfl) (by kernel_rfl) (fun _ _ _ h=>h) (Or.inr ⟨by rfl,rfl⟩) (by assumption) ?_
  try simp only[ao]
  refine wpAnyH_take (i:=8) (v:=undef) rfl (by kernel_rfl) (by kernel_rfl) (by kernel_rfl) (fun _ _ _ h=>h) (Or.inr ⟨by rfl,rfl⟩) (by assumption) ?_
  try simp only[ao]
  refine wpAnyH_take (i:=9) (v:=undef) rfl (by kernel_rfl) (by kernel_rfl) (by kernel_rfl) (fun _ _ _ h=>h) (Or.inr ⟨by rfl,rfl⟩) (by assumption) ?_
  try simp only[ao]
  refine wpAnyH_take (i:=10) (v:=undef) rfl (by kernel_rfl) (by kernel_rfl) (by kernel_rfl) (fun _ _ _ h=>h) (Or.inr ⟨by rfl,rfl⟩) (by assumption) ?_
  try simp only[ao]
  refine aF 11 (v:= ?_) rfl ?v11 ?_
  case v11=>(intro w hSw;(try dsimp only at hSw);go_simp;try with_reducible rfl)
  try simp only[ao]
  refine aF 12 (v:= ?_) rfl ?v12 ?_
  case v12=>(intro w hSw;(try dsimp only at hSw);go_simp;try with_reducible rfl)
  try simp only[ao]
  refine wpAnyH_done (by kernel_rfl) ?_ _
  go_wp2
  go_ret
  exact⟨by rw[HR.out];rfl,GJ (by assumption)⟩
 simp only[Bool.not_eq_true] at hc
 have HR:=aa (jL k hc)
 go_enter Tryz.func112,Tryz.ntmps112
 go_wp2
 go_region_held3 (fun w'=>w'.cell? ⟨w.heap.size,0,none⟩=some (.bool k.e)∧w'.cell? ⟨w.heap.size,1,none⟩=some (.int .u64 k.d)∧w'.cell? ⟨w.heap.size,2,none⟩=some (.int .u8 k.l)∧Below w.heap.size w w')
  (first|exact A8 _ _ _|exact DH (by assumption) hb)
  (first
   |(go_at_call 47;refine(HF.out _ _).mono ?_;rintro e w1 ⟨rfl,hb⟩)
   |(go_at_call 114;refine(HD.out _ _).mono ?_;rintro e w2 ⟨rfl,hb⟩))
 go_wp2
 go_ret
 exact⟨by rw[HR.out];rfl,GJ (by assumption)⟩
end Go.Proofs.YtdbailcdlngemaaGreatDoor.Ke
namespace Go.Proofs.YtdbailcdlngemaaGreatDoor
abbrev En:=Nat×Ke.K
def put (x:En):List En→List En
 |[]=>[x]
 |y::M=>if Ke.up x.2 y.2 then x::y::M else y::put x M
def cut (id:Nat) (M:List En):List En:=M.filter (fun y=>y.1 !=id)
theorem nF (x:En): ∀(A B:List En),(∀y∈A,Ke.up x.2 y.2=false)→put x (A++B)=A++put x B
 |[],_,_=>rfl
 |y::A,B,h=>by
  have e:=h y (by simp)
  simp only[List.cons_append,put,e]
  rw[nF x A B (fun z hz=>h z (by simp[hz]))]
  rfl
theorem ry (x:En): ∀(B:List En),(∀y∈B,Ke.up x.2 y.2=true)→put x B=x::B
 |[],_=>rfl
 |y::B,h=>by simp[put,h y (by simp)]
theorem zx {M:List En} {id:Nat} (h: ∀y∈M,y.1≠id):cut id M=M:=by
 unfold cut
 rw[List.filter_eq_self]
 intro a ha
 simpa using h a ha
theorem mQ {y:En} {M:List En} (h:((y::M).map (·.1)).Nodup):cut y.1 (y::M)=M:=by
 rw[List.map_cons,List.nodup_cons] at h
 unfold cut
 rw[List.filter_cons_of_neg (by simp)]
 exact zx (fun z hz e=>h.1 (List.mem_map.2 ⟨z,hz,e⟩))
theorem vq {M:List En} (h:(M.map (·.1)).Nodup) {a b:En} (ha:a∈M) (hb:b∈M) (e:a.1=b.1):a=b:=by
 induction M with
 |nil=>cases ha
 |cons y M ih=>
  rw[List.map_cons,List.nodup_cons] at h
  rcases List.mem_cons.1 ha with e1|ha'
  ·rcases List.mem_cons.1 hb with e2|hb'
   ·rw[e1,e2]
   ·exact absurd (List.mem_map.2 ⟨b,hb',by rw[←e,e1]⟩) h.1
  ·rcases List.mem_cons.1 hb with e2|hb'
   ·exact absurd (List.mem_map.2 ⟨a,ha',by rw[e,e2]⟩) h.1
   ·exact ih h.2 ha' hb'
theorem df {x y:En}: ∀{M:List En},y∈put x M↔y=x∨y∈M
 |[]=>by simp[put]
 |z::M=>by
  unfold put
  split
  ·simp
  ·rw[List.mem_cons,df,List.mem_cons]
   constructor
   ·rintro(h|h|h)
    ·exact .inr (.inl h)
    ·exact .inl h
    ·exact .inr (.inr h)
   ·rintro(h|h|h)
    ·exact .inr (.inl h)
    ·exact .inl h
    ·exact .inr (.inr h)
theorem j6 {x:En}: ∀{M:List En},(put x M).length=M.length+1
 |[]=>rfl
 |z::M=>by
  unfold put
  split
  ·simp
  ·simp[j6]
theorem mT {x:En}: ∀{M:List En},(M.map (·.1)).Nodup→(∀y∈M,y.1≠x.1)→((put x M).map (·.1)).Nodup
 |[],_,_=>by simp[put]
 |z::M,h,hx=>by
  unfold put
  split
  ·rw[List.map_cons,List.nodup_cons]
   refine⟨fun q=> ?_,h⟩
   obtain⟨y,hy,e⟩:=List.mem_map.1 q
   exact hx y hy e
  ·rw[List.map_cons,List.nodup_cons] at h⊢
   refine⟨fun q=> ?_,mT h.2 (fun y hy=>hx y (by simp[hy]))⟩
   obtain⟨y,hy,e⟩:=List.mem_map.1 q
   rcases df.1 hy with rfl|hy
   ·exact hx z (by simp) e.symm
   ·exact h.1 (List.mem_map.2 ⟨y,hy,e⟩)
theorem Ar {M:List En} {id:Nat} (h:(M.map (·.1)).Nodup):((cut id M).map (·.1)).Nodup:=
 List.Nodup.sublist (List.Sublist.map _ List.filter_sublist) h
theorem gx {M:List En} {id:Nat} {y:En}:y∈cut id M↔y∈M∧y.1≠id:=by simp[cut]
theorem jP {id:Nat} {k:Ke.K}: ∀{M:List En},(M.map (·.1)).Nodup→(id,k)∈M→(cut id M).length+1=M.length
 |[],_,h=>by cases h
 |y::M,hn,h=>by
  by_cases e:y.1=id
  ·rw[←e,mQ hn];simp
  ·rw[List.map_cons,List.nodup_cons] at hn
   have:cut id (y::M)=y::cut id M:=by unfold cut;rw[List.filter_cons_of_pos (by simpa using e)]
   rw[this]
   have hm:(id,k)∈M:=by
    rcases List.mem_cons.1 h with h|h
    ·exact absurd (by rw[←h]) e
    ·exact h
   have:=jP hn.2 hm
   simp
   omega
def keyOf (M:List En) (id:Nat):Option Ke.K:=(M.find? (fun y=>y.1==id)).map (·.2)
theorem ei {M:List En} {id:Nat} {k:Ke.K} (h:(M.map (·.1)).Nodup):keyOf M id=some k↔(id,k)∈M:=by
 unfold keyOf
 constructor
 ·intro q
  cases hf:M.find? (fun y=>y.1==id) with
  |none=>rw[hf] at q;cases q
  |some y=>
   rw[hf] at q
   have h1:=List.mem_of_find?_eq_some hf
   have h2:=List.find?_some hf
   simp at q h2
   rw[←q,←h2]
   exact h1
 ·intro q
  cases hf:M.find? (fun y=>y.1==id) with
  |none=>
   have:=List.find?_eq_none.1 hf _ q
   simp at this
  |some y=>
   have h1:=List.mem_of_find?_eq_some hf
   have h2:=List.find?_some hf
   simp at h2
   have:=vq h h1 q h2
   rw[this]
   rfl
theorem bz {M:List En} {id:Nat}:keyOf M id=none↔ ∀y∈M,y.1≠id:=by
 unfold keyOf
 rw[Option.map_eq_none_iff,List.find?_eq_none]
 simp
end Go.Proofs.YtdbailcdlngemaaGreatDoor
namespace Go.Proofs.YtdbailcdlngemaaGreatDoor.Ex
open Go.RowKit Go.Lib Go.Deep Go.ChangeShapes Go.WideShapes Go.ChangeAt
@[go_sem] theorem GM (x y : Value) (w : World) : (Instr.field 170 (.agg #[x, y]) 0).run Tryz.prog w = .ok x w := by kernel_rfl
@[go_sem] theorem uh (x y : Value) (w : World) : (Instr.field 170 (.agg #[x, y]) 1).run Tryz.prog w = .ok y w := by kernel_rfl
end Go.Proofs.YtdbailcdlngemaaGreatDoor.Ex
namespace Go.Proofs.YtdbailcdlngemaaGreatDoor.Ag
open Go.RowKit
def jJ (a b:Int):Int:=if a<b then 0 else a-b
theorem Co (a b:Int) (w:World) (a0:0≤a) (a1:a≤18446744073709551615) (b0:0≤b) (b1:b≤18446744073709551615):
  Calls Tryz.prog 173 #[.int .u64 a,.int .u64 b] w fun e w'=>e= .returned (.int .u64 (jJ a b))∧w'=w:=by
 unfold jJ
 by_cases h:a<b
 ·rw[if_pos h]
  go_enter Tryz.func173,Tryz.ntmps173
  go_wp2
  go_ret
  exact⟨rfl,rfl⟩
 ·rw[if_neg h]
  have h':b≤a:=by omega
  go_enter Tryz.func173,Tryz.ntmps173
  go_wp2
  go_ret
  exact⟨rfl,rfl⟩
theorem C3 (a b:Int) (a0:0≤a) (a1:a≤18446744073709551615) (b0:0≤b):0≤jJ a b∧jJ a b≤18446744073709551615:=by
 unfold jJ;split<;>omega
def Hid (p:Prop):Prop:=p
theorem aa {p:Prop} (h:p):Hid p:=h
theorem Hid.out {p:Prop} (h:Hid p):p:=h
def xw (b s n p:Int):Int:=if p=0 then b else if jJ n s/p<255-b then b+jJ n s/p else 255
def Tm (a:Int):Prop:=0≤a∧a≤18446744073709551615
def Lv (a:Int):Prop:=0≤a∧a≤255
theorem Fx (x p:Int) (h0:0≤x) (h1:x≤18446744073709551615) (hp:0≤p):0≤x/p∧x/p≤18446744073709551615:=
 ⟨Int.ediv_nonneg h0 hp,Int.le_trans (Int.ediv_le_self p h0) h1⟩
theorem zv (b s n p:Int) (w:World) (hb:Lv b) (hs:Tm s) (hn:Tm n) (hp:Tm p):
  Calls Tryz.prog 141 #[.int .u8 b,.int .u64 s,.int .u64 n,.int .u64 p] w fun e w'=>e= .returned (.int .u8 (xw b s n p))∧w'=w:=by
 obtain⟨b0,b1⟩:=hb
 obtain⟨s0,s1⟩:=hs
 obtain⟨n0,n1⟩:=hn
 obtain⟨p0,p1⟩:=hp
 have HS:=aa (fun w=>Co n s w n0 n1 s0 s1)
 have hx:=C3 n s n0 n1 s0
 unfold xw
 generalize jJ n s=x at HS hx⊢
 obtain⟨x0,x1⟩:=hx
 obtain⟨q0,q1⟩:=Fx x p x0 x1 p0
 by_cases hp:p=0
 ·rw[if_pos hp]
  go_enter Tryz.func141,Tryz.ntmps141
  go_wp2
  go_ret
  exact⟨rfl,rfl⟩
 ·rw[if_neg hp]
  by_cases hq:x/p<255-b
  ·rw[if_pos hq]
   go_enter Tryz.func141,Tryz.ntmps141
   go_wp2_with (go_at_call 173;refine(HS.out _).mono ?_;rintro e w1 ⟨rfl,hw⟩;replace hw:=hw.symm;subst hw)
   go_ret
   exact⟨rfl,rfl⟩
  ·rw[if_neg hq]
   go_enter Tryz.func141,Tryz.ntmps141
   go_wp2_with (go_at_call 173;refine(HS.out _).mono ?_;rintro e w1 ⟨rfl,hw⟩;replace hw:=hw.symm;subst hw)
   all_goals
    go_ret
    refine⟨?_,rfl⟩
    simp
    omega
end Go.Proofs.YtdbailcdlngemaaGreatDoor.Ag

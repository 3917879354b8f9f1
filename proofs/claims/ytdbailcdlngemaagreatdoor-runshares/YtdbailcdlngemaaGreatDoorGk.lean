/- YtdbailcdlngemaaGreatDoorGk: of the texts V1 Wa1 Wa0 Wa2 V2 V3 Wa3 Wa4 Wa5 Wa6 Wa7 Wa8 Wa9 Wb1 Wb2 Wb3 Wb4 Wb5 Wb6 Wg1 what is wanted. -/
import Derived.Test.YtdbailcdlngemaaGreatDoorRows
import Derived.WalkKit
import Derived.Below
import Derived.WalkSpells
import Derived.WalkLawsBesides
import Derived.StillTactics
import Derived.RegionTactic
import Derived.RowKit3
import Derived.Laws.MakeOwn
import Derived.OwnWalk
import Derived.Deep.QuietTactic
import Derived.BigQuiet
import Derived.Maps.OwnSet
import Derived.Maps.RangeWalk
import Derived.Deep.RegionHeld3
import Derived.Deep.DrawnRows
import Derived.Lib.SmallJoins
import Derived.Maps.Own
import Derived.Deep.Cut
import Derived.Laws.OwnMore
import Derived.Laws.IdiomCopy
import Derived.Sort.OwnSorted
set_option maxHeartbeats 16000000
set_option maxRecDepth 100000
set_option linter.unusedVariables false
set_option linter.unusedSimpArgs false
namespace Go.Proofs.YtdbailcdlngemaaGreatDoor.Wh
open Go.RowKit
structure aJ (w:World) (b g n nw ct:Nat) (fm:Value) (F L A B E:Nat→Nat) (T:Nat→Bool):Prop where
 bg:b≠g
 en: ∃cp,w.cell? ⟨b,130,none⟩=some (.slice (some ⟨g,0,none⟩) (n+1) cp)
 tn:w.cell? ⟨b,0,none⟩=some (.int .u64 (nw:Int))
 tm:w.cell? ⟨b,129,none⟩=some (fm)
 tc:w.cell? ⟨b,131,none⟩=some (.int .i64 (ct:Int))
 sf: ∀x,x<64→w.cell? ⟨b,1+x*2,none⟩=some (.int .i64 ((F x:Nat):Int))
 sl: ∀x,x<64→w.cell? ⟨b,1+x*2+1,none⟩=some (.int .i64 ((L x:Nat):Int))
 ea: ∀x,x≤n→w.cell? ⟨g,x*4,none⟩=some (.int .i64 ((A x:Nat):Int))
 eb: ∀x,x≤n→w.cell? ⟨g,x*4+1,none⟩=some (.int .i64 ((B x:Nat):Int))
 ee: ∀x,x≤n→w.cell? ⟨g,x*4+2,none⟩=some (.int .u64 ((E x:Nat):Int))
 et: ∀x,x≤n→w.cell? ⟨g,x*4+3,none⟩=some (.bool (T x))
 fb: ∀o,w.frozen? ⟨b,o,none⟩=false
 fg: ∀o,w.frozen? ⟨g,o,none⟩=false
section
variable {w:World} {b g n nw ct:Nat} {fm:Value} {F L A B E:Nat→Nat} {T:Nat→Bool}
theorem aJ.eF (h:aJ w b g n nw ct fm F L A B E T):b<w.heap.size:=World.block_lt_of_cell? w ⟨b,0,none⟩ h.tn
theorem aJ.eW (h:aJ w b g n nw ct fm F L A B E T):g<w.heap.size:=World.block_lt_of_cell? w ⟨g,0*4,none⟩ (h.ea 0 (Nat.zero_le _))
theorem aJ.kept {w':World} (h:aJ w b g n nw ct fm F L A B E T) (hb:w'.heap[b]? =w.heap[b]?) (hg:w'.heap[g]? =w.heap[g]?):aJ w' b g n nw ct fm F L A B E T:=by
 have eb: ∀o,w'.cell? ⟨b,o,none⟩=w.cell? ⟨b,o,none⟩:=fun o=>by simp only[World.cell?,hb]
 have eg: ∀o,w'.cell? ⟨g,o,none⟩=w.cell? ⟨g,o,none⟩:=fun o=>by simp only[World.cell?,hg]
 have ib: ∀o,w'.frozen? ⟨b,o,none⟩=w.frozen? ⟨b,o,none⟩:=fun o=>by simp only[World.frozen?,hb]
 have ig: ∀o,w'.frozen? ⟨g,o,none⟩=w.frozen? ⟨g,o,none⟩:=fun o=>by simp only[World.frozen?,hg]
 exact⟨h.bg,by simp only[eb];exact h.en,by rw[eb];exact h.tn,by rw[eb];exact h.tm,by rw[eb];exact h.tc,fun x hx=>by rw[eb];exact h.sf x hx,fun x hx=>by rw[eb];exact h.sl x hx,fun x hx=>by rw[eg];exact h.ea x hx,fun x hx=>by rw[eg];exact h.eb x hx,fun x hx=>by rw[eg];exact h.ee x hx,fun x hx=>by rw[eg];exact h.et x hx,fun o=>by rw[ib];exact h.fb o,fun o=>by rw[ig];exact h.fg o⟩
end
end Go.Proofs.YtdbailcdlngemaaGreatDoor.Wh
namespace Go.Proofs.YtdbailcdlngemaaGreatDoor.Wh
structure It where
 i:Nat
 t:Nat
def wU (S:List It):Prop:=S.Pairwise (fun a c=>a.t≤c.t)
def ky (nw:Nat) (x:It):Nat:=max x.t nw
def GY (nw:Nat) (S:List It) (k:Nat):List It:=S.filter (fun x=>ky nw x==k)
def af (S:List It):List Nat:=S.map (fun x=>x.i+1)
section
variable {S:List It} {x:It} {p:It→Bool}
end
def Ig (A B:Nat→Nat):Nat→List Nat→Nat→Prop
 |_,[],_=>True
 |p,x::xs,q=>A x=p∧B x=xs.headD q∧Ig A B x xs q
structure Im (A B:Nat→Nat) (f l:Nat) (xs:List Nat):Prop where
 f:f=xs.headD 0
 l:l=xs.getLastD 0
 s:Ig A B 0 xs 0
section
variable {A B A' B':Nat→Nat} {xs ys:List Nat} {p q x:Nat}
variable {P Q:List Nat} {f l:Nat}
end
open Go.RowKit
open Go.Maps (Keyed)
def RL:Value→Option (DataW Unit×List MemPlace)
 | .agg ⟨[.int .i64 a,.int .i64 c]⟩=>some (.agg [.lit (.int .i64 a),.lit (.int .i64 c)],[])
 |_=>none
def iC (w:World) (mb:Nat) (f:Int→Option (Nat×Nat)) (s:Nat):Prop:=
 ∃D:DataW Unit,w.ownsMap Tryz.prog 39 RL mb s D∧(∀i,Maps.has D (.int .u64 i)=(f i).isSome)∧(∀i c zd,f i=some c→D.atKey (.int .u64 i) zd= .agg [.lit (.int .i64 (c.1:Int)),.lit (.int .i64 (c.2:Int))])∧Maps.size D=s
section
variable {w w':World} {mb s:Nat} {f:Int→Option (Nat×Nat)}
theorem iC.made (w:World):iC (w.alloc (.map #[] 0)) w.heap.size (fun _=>none) 0:=
 ⟨.map [],World.ownsMap_made w _ _ _,fun _=>rfl,fun i c zd h=>(by cases h),rfl⟩
theorem iC.lt (h:iC w mb f s):mb<w.heap.size:=by obtain⟨D,h,_⟩:=h;exact h.lt
theorem iC.block (h:iC w mb f s) (hb:w'.heap[mb]? =w.heap[mb]?):iC w' mb f s:=by
 obtain⟨D,⟨es,clock,h0,h1⟩,h2⟩:=h
 exact⟨D,⟨es,clock,by rw[hb];exact h0,h1⟩,h2⟩
end
end Go.Proofs.YtdbailcdlngemaaGreatDoor.Wh
namespace Go.Proofs.YtdbailcdlngemaaGreatDoor.Wh
structure Inv (n nw ct:Nat) (F L:Nat→Nat) (fr:Int→Option (Nat×Nat)) (A B E:Nat→Nat) (T:Nat→Bool) (S:List It):Prop where
 srt:wU S
 nd:(S.map (·.i)).Nodup
 lt: ∀x∈S,x.i<n
 tm: ∀x∈S,x.t<18446744073709551616
 hw:nw<18446744073709551616
 hc:ct=S.length
 slot: ∀s,s<64→Im A B (F s) (L s) (af (GY nw S (nw/64*64+s)))
 ka: ∀k:Nat,nw/64<k/64→(fr (k:Int)=none∧GY nw S k=[])∨(∃f l:Nat,fr (k:Int)=some (f,l)∧GY nw S k≠[]∧Im A B f l (af (GY nw S k)))
 out: ∀i:Int,(fr i).isSome=true→ ∃k:Nat,i=(k:Int)∧nw/64<k/64
 pP: ∀x∈S,T (x.i+1)=true∧E (x.i+1)=x.t
 zer: ∀p,p≤n→(∀x∈S,x.i+1≠p)→T p=false∧E p=0
section
variable {n nw ct:Nat} {F L:Nat→Nat} {fr:Int→Option (Nat×Nat)} {A B E A' B' E':Nat→Nat} {T T':Nat→Bool} {S S':List It}
end
open Go.RowKit
attribute [local go_sem ↓] Go.wp_at_zero Go.wp_at_succ
def iP:Value:= .agg #[.int .i64 0,.int .i64 0,.int .u64 0,.bool false]
def bB (n:Nat):Array Value:=madeCells iP.cells ((n+1)*4)
theorem xC:(Tryz.prog.info? 253).map (fun i=>(i.zero,i.size,i.bytes))=some (some iP,4,32):=by kernel_rfl
def zeroCells:Array Value:= #[.int .u64 0]++(Array.replicate 128 (.int .i64 0)++ #[.map none,.slice none 0 0,.int .i64 0])
theorem fa:zeroCells.size=132:=by unfold zeroCells;simp
theorem D7 (w:World):(zeroValue 149).run Tryz.prog w= .ok (.agg zeroCells) w:=by kernel_rfl
theorem aA (w:World) (c:Array Value) (t:TypeId) (i:Nat):(w.alloc (.cells c t)).cell? ⟨w.heap.size,i,none⟩=c[i]? :=by
 unfold World.cell?
 simp only[(MapKept.heap_alloc w (.cells c t)).1]
 rfl
theorem aG (w:World) (c:Array Value) (t:TypeId) (i:Nat):(w.alloc (.cells c t)).frozen? ⟨w.heap.size,i,none⟩=false:=by
 unfold World.frozen?
 simp only[(MapKept.heap_alloc w (.cells c t)).1]
 simp
theorem jw (n k:Nat) (h:k<(n+1)*4):(bB n)[k]? =some ((#[Value.int .i64 0,.int .i64 0,.int .u64 0,.bool false]:Array Value)[k%4]!):=by
 unfold bB madeCells iP
 simp[Value.cells,h]
def aX (r g n:Nat):Array Value:=(zeroCells.setIfInBounds 129 (.map (some r))).setIfInBounds 130 (.slice (some ⟨g,0,none⟩) (n+1) (n+1))
theorem r4 (r g n i:Nat) (h1:1≤i) (h2:i≤128):(aX r g n)[i]? =some (.int .i64 0):=by
 unfold aX
 rw[Array.getElem?_setIfInBounds_ne (by omega),Array.getElem?_setIfInBounds_ne (by omega)]
 unfold zeroCells
 rw[Array.getElem?_append_right (by simp;omega),Array.getElem?_append_left (by simp;omega)]
 have hi:i-1<128:=by omega
 simp[hi]
theorem Dn (r g n:Nat):(aX r g n)[0]? =some (.int .u64 0):=by
 unfold aX
 rw[Array.getElem?_setIfInBounds_ne (by omega),Array.getElem?_setIfInBounds_ne (by omega)]
 unfold zeroCells
 rw[Array.getElem?_append_left (by simp)]
 rfl
theorem xh (r g n:Nat):(aX r g n)[129]? =some (.map (some r)):=by
 unfold aX
 rw[Array.getElem?_setIfInBounds_ne (by omega),Array.getElem?_setIfInBounds_self_of_lt (by rw[fa];omega)]
theorem xM (r g n:Nat):(aX r g n)[130]? =some (.slice (some ⟨g,0,none⟩) (n+1) (n+1)):=by
 unfold aX
 rw[Array.getElem?_setIfInBounds_self_of_lt (by rw[Array.size_setIfInBounds,fa];omega)]
theorem vT (r g n:Nat):(aX r g n)[131]? =some (.int .i64 0):=by
 unfold aX
 rw[Array.getElem?_setIfInBounds_ne (by omega),Array.getElem?_setIfInBounds_ne (by omega)]
 unfold zeroCells
 rw[Array.getElem?_append_right (by simp),Array.getElem?_append_right (by simp)]
 simp
theorem gE (w:World) (n:Nat):
  aJ (((w.alloc (.map #[] 0)).alloc (.cells (bB n) 253)).alloc (.cells (aX w.heap.size (w.heap.size+1) n) 149)) (w.heap.size+1+1) (w.heap.size+1) n 0 0 (.map (some w.heap.size)) (fun _=>0) (fun _=>0) (fun _=>0) (fun _=>0) (fun _=>0) (fun _=>false):=by
 have e1:w.heap.size+1=(w.alloc (.map #[] 0)).heap.size:=by simp
 have e2:w.heap.size+1+1=((w.alloc (.map #[] 0)).alloc (.cells (bB n) 253)).heap.size:=by simp
 have hb: ∀i,(((w.alloc (.map #[] 0)).alloc (.cells (bB n) 253)).alloc (.cells (aX w.heap.size (w.heap.size+1) n) 149)).cell? ⟨w.heap.size+1+1,i,none⟩=(aX w.heap.size (w.heap.size+1) n)[i]? :=by
  intro i
  rw[e2];exact aA _ _ _ _
 have hg: ∀i,(((w.alloc (.map #[] 0)).alloc (.cells (bB n) 253)).alloc (.cells (aX w.heap.size (w.heap.size+1) n) 149)).cell? ⟨w.heap.size+1,i,none⟩=(bB n)[i]? :=by
  intro i
  rw[World.cell?_alloc_lt _ _ _ (by simp)]
  have:=aA (w.alloc (.map #[] 0)) (bB n) 253 i
  rw[←e1] at this
  exact this
 have fb: ∀i,(((w.alloc (.map #[] 0)).alloc (.cells (bB n) 253)).alloc (.cells (aX w.heap.size (w.heap.size+1) n) 149)).frozen? ⟨w.heap.size+1+1,i,none⟩=false:=by
  intro i
  rw[e2];exact aG _ _ _ _
 have fg: ∀i,(((w.alloc (.map #[] 0)).alloc (.cells (bB n) 253)).alloc (.cells (aX w.heap.size (w.heap.size+1) n) 149)).frozen? ⟨w.heap.size+1,i,none⟩=false:=by
  intro i
  rw[World.frozen?_alloc_past _ _ _ (by simp)]
  have:=aG (w.alloc (.map #[] 0)) (bB n) 253 i
  rw[←e1] at this
  exact this
 refine⟨by omega,⟨n+1,by rw[hb];exact xM _ _ _⟩,by rw[hb];exact Dn _ _ _,by rw[hb];exact xh _ _ _,by rw[hb];exact vT _ _ _,fun x hx=> ?_,fun x hx=> ?_,fun x hx=> ?_,fun x hx=> ?_,fun x hx=> ?_,fun x hx=> ?_,fb,fg⟩
 ·rw[hb,r4 _ _ _ _ (by omega) (by omega)];rfl
 ·rw[hb,r4 _ _ _ _ (by omega) (by omega)];rfl
 ·rw[hg,jw n _ (by omega),show x*4%4=0 by omega];rfl
 ·rw[hg,jw n _ (by omega),show(x*4+1)%4=1 by omega];rfl
 ·rw[hg,jw n _ (by omega),show(x*4+2)%4=2 by omega];rfl
 ·rw[hg,jw n _ (by omega),show(x*4+3)%4=3 by omega];rfl
section
variable {w:World} {b g n nw ct:Nat} {fm:Value} {F L A B E:Nat→Nat} {T:Nat→Bool}
theorem x9 (h:aJ w b g n nw ct fm F L A B E T):
  Calls Tryz.prog 125 #[.pointer (some ⟨b,0,none⟩)] w fun e w'=>e= .returned (.int .u64 (nw:Int))∧w'=w:=by
 have e2:=h.tn
 clear h
 go_enter Tryz.func125,Tryz.ntmps125
 go_wp2
 go_ret
 exact⟨rfl,rfl⟩
end
structure Fr (S:Nat→Prop) (w w':World):Prop where
 os:w'.os=w.os
 tape:w'.tape=w.tape
 output:w'.output=w.output
 size:w.heap.size≤w'.heap.size
 block: ∀k,k<w.heap.size→ ¬S k→w'.heap[k]? =w.heap[k]?
section
variable {S S':Nat→Prop} {w w' w'':World}
end
theorem iW: ∀{l m:List Int},l.Nodup→(∀x∈l,x∈m)→l.length≤m.length
 |[],_,_,_=>by simp
 |a::l,m,hn,hs=>by
  obtain⟨h1,h2⟩:=List.nodup_cons.1 hn
  have ha:a∈m:=hs a (by simp)
  have:=iW (l:=l) (m:=m.erase a) h2 (fun x hx=>(List.mem_erase_of_ne (fun e=>h1 (by rw[←e];exact hx))).2 (hs x (by simp[hx])))
  rw[List.length_erase_of_mem ha] at this
  have:=List.length_pos_of_mem ha
  simp
  omega
section
variable {w:World} {b g mb n nw ct s:Nat} {F L A B E:Nat→Nat} {T:Nat→Bool} {fr:Int→Option (Nat×Nat)}
def O3 (b g mb:Nat):Nat→Prop:=fun k=>k=b∨k=g∨k=mb
end
def AX (w:World) (b g mb n nw:Nat) (S:List It):Prop:=
 ∃(ct:Nat) (F L:Nat→Nat) (fr:Int→Option (Nat×Nat)) (A B E:Nat→Nat) (T:Nat→Bool) (s:Nat),aJ w b g n nw ct (.map (some mb)) F L A B E T∧iC w mb fr s∧Inv n nw ct F L fr A B E T S∧b≠mb∧g≠mb∧n≤1024
section
variable {w w':World} {b g mb n nw ct s:Nat} {F L A B E:Nat→Nat} {T:Nat→Bool} {fr:Int→Option (Nat×Nat)} {S:List It}
theorem Inv.fF (h:Inv n nw ct F L fr A B E T S):S.length≤n:=by
 have:=iW (l:=S.map (fun x=>(x.i:Int))) (m:=(List.range n).map (fun (k:Nat)=>(k:Int))) (by
  have hn:=h.nd
  rw[List.Nodup,List.pairwise_map] at hn⊢
  exact hn.imp (fun {a c} hne e=>hne (by omega))) (fun x hx=>by
   obtain⟨y,hy,rfl⟩:=List.mem_map.1 hx
   exact List.mem_map.2 ⟨y.i,List.mem_range.2 (h.lt y hy),rfl⟩)
 simpa using this
theorem AX.frame {Z:Nat→Prop} (h:AX w b g mb n nw S) (hf:Fr Z w w') (h1: ∀k,O3 b g mb k→ ¬Z k):AX w' b g mb n nw S:=by
 obtain⟨ct,F,L,fr,A,B,E,T,s,hr,hm,hi,r⟩:=h
 exact⟨ct,F,L,fr,A,B,E,T,s,hr.kept (hf.block b hr.eF (h1 b (.inl rfl))) (hf.block g hr.eW (h1 g (.inr (.inl rfl)))),hm.block (hf.block mb hm.lt (h1 mb (.inr (.inr rfl)))),hi,r⟩
theorem AX.facts (h:AX w b g mb n nw S):wU S∧(S.map (·.i)).Nodup∧(∀x∈S,x.i<n)∧(∀x∈S,x.t<18446744073709551616)∧nw<18446744073709551616∧S.length≤n∧n≤1024:=by
 obtain⟨ct,F,L,fr,A,B,E,T,s,hr,hm,hi,_,_,hn⟩:=h
 exact⟨hi.srt,hi.nd,hi.lt,hi.tm,hi.hw,hi.fF,hn⟩
theorem D5 (h:AX w b g mb n nw S):
  Calls Tryz.prog 125 #[.pointer (some ⟨b,0,none⟩)] w fun e w'=>e= .returned (.int .u64 (nw:Int))∧w'=w:=by
 obtain⟨ct,F,L,fr,A,B,E,T,s,hr,hm,hi,hbm,hgm,hn⟩:=h
 exact x9 hr
end
theorem jN {P:Program} (w:World) {ops:Array Oper} {rest:List Oper} {o:Oper} {a:Act} {Q:Exit→Act→World→Prop} (hgd:o.guard=none) (s x:Operand) (t:TypeId)
  (ho:o.op= .call {callee:= .builtin .append,args:= #[s,x],argTypes:= #[t,t]})
  (base:Nat) (e:TypeId) (i:TypeInfo) (size:Nat) (ht:P.underlying t=some (.slice e)) (hi:P.info? e=some i)
  (v:Value) (n:Nat) (xs:List Value) (hs:a.eval s=v) (hown:w.ownsRow base e size v n xs) (hx:a.eval x= .slice none 0 0)
  (h:wpList P ops Q rest (a.put o.dst v) w):wpList P ops Q (o::rest) a w:=by
 refine wpList_plain hgd fun K hK=> ?_
 have hr:=run_append_owned_none (P:=P) w base t o.type e i size ht hi v n xs hown
 unfold Oper.wp execOp
 simp only[ho,resolve,invoke,builtin,Sem.run_bind,Sem.run_pure,Result.andThen_ok,List.map_toArray,List.map_cons,List.map_nil,hs,hx,hr]
 exact hK _ _ h
section
variable {w:World} {b g n nw ct f l:Nat} {fm:Value} {F L A B E:Nat→Nat} {T:Nat→Bool} {xs:List Nat}
end
end Go.Proofs.YtdbailcdlngemaaGreatDoor.Wh
namespace Go.Proofs.YtdbailcdlngemaaGreatDoor.Wh
open Go.RowKit Go.Lib
attribute [local go_sem ↓] Go.wp_at_zero Go.wp_at_succ
theorem Bj (n:Nat) (w:World) (h1:1≤n) (h2:n≤1024):
  Calls Tryz.prog 30 #[.int .i64 n] w fun e w'=> ∃b g mb,e= .returned (.pointer (some ⟨b,0,none⟩))∧(∀k,O3 b g mb k→w.heap.size≤k∧k<w'.heap.size)∧AX w' b g mb n 0 []∧Below w.heap.size w w':=by
 obtain⟨i0,hi,hz0,hz1,hz2⟩:=info_parts xC
 have hmk: ∀w,(Instr.makeSlice 144 (.int .i64 ((n:Int)+1)) (.int .i64 ((n:Int)+1))).run Tryz.prog w= .ok (.slice (some ⟨w.heap.size,0,none⟩) (n+1) (n+1)) (w.alloc (.cells (bB n) 253)):=by
  intro w
  have:=run_make w 144 253 i0 iP Tryz.underlying144 hi hz0 .i64 .i64 ((n:Int)+1) ((n:Int)+1) (by omega) (by omega) (by rw[hz2];omega) (by omega)
  rw[hz1,show((n:Int)+1).toNat=n+1 by omega] at this
  exact this
 have HX:Hid (AX (((w.alloc (.map #[] 0)).alloc (.cells (bB n) 253)).alloc (.cells (aX w.heap.size (w.heap.size+1) n) 149)) (w.heap.size+1+1) (w.heap.size+1) w.heap.size n 0 []):=by
  refine⟨0,_,_,fun _=>none,_,_,_,_,0,gE w n,?_,?_,by omega,by omega,h2⟩
  ·refine(iC.made w).block ?_
   rw[Below.heap_alloc _ _ _ (by simp;omega),Below.heap_alloc _ _ _ (by simp)]
  ·refine⟨List.Pairwise.nil,List.nodup_nil,by simp,by simp,by omega,rfl,fun s hs=>⟨rfl,rfl,trivial⟩,fun k hk=> .inl ⟨rfl,rfl⟩,fun i hi=>(by cases hi),(by simp),fun p hp _=>⟨rfl,rfl⟩⟩
 have hzw:=D7
 have hzs:=fa
 have hmm:= @run_makeMap Tryz.prog
 clear hi hz0 hz1 hz2
 go_enter Tryz.func30,Tryz.ntmps30
 go_wp2
 go_ret
 refine⟨_,_,_,rfl,?_,HX.out,(((Below.refl _ _).alloc (Nat.le_refl _) _).alloc (by simp) _).alloc (by simp;omega) _⟩
 rintro k (rfl|rfl|rfl)<;>simp<;>omega
end Go.Proofs.YtdbailcdlngemaaGreatDoor.Wh

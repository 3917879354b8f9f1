/- YtnmhcgpnhlhcgaaGreatDoorK0: of the texts Q0 Q2 Q4 Q5 what is wanted. -/
import Derived.Below
import Derived.Test.YtnmhcgpnhlhcgaaGreatDoorProg
import Derived.Test.YtnmhcgpnhlhcgaaGreatDoorRows
import Derived.Below
import Derived.Deep.RegionHeld3
import Derived.WalkKit
import Derived.ProofKit
import Derived.Carry
import Derived.Laws.OwnMore
import Derived.Lib.SmallJoins
import Derived.WalkMore
import Derived.RowKit3
import Derived.RangeFuncNested
import Derived.RangeFuncBound
import Derived.RangeFuncCalls
import Derived.OwnWalkIn
set_option maxHeartbeats 16000000
set_option maxRecDepth 100000
set_option linter.unusedVariables false
set_option linter.unusedSimpArgs false
namespace Go.Proofs.YtnmhcgpnhlhcgaaGreatDoor
theorem ge {P:Program} {f:FuncId} {fn:Func} {c:Code} {args tm:Array Value} {n:Nat} {w:World} {R:Ending→World→Prop}
  (h:c.wp P (bodyPost P fn R) {tmps:=tm,defers:=[]} w)
  (hf:P.funcs[f]? =some fn:=by
   simp only[go_sem]
   rfl)
  (hb:fn.body=some c:=by rfl) (hn:fn.ntmps=n:=by conv=>lhs;whnf)
  (ht:args++Array.replicate (n-args.size) undef=tm:=by
   simp only[List.size_toArray,List.length_cons,List.length_nil,Nat.reduceAdd,Nat.reduceSub,Array.replicate_succ,Array.replicate_zero,List.push_toArray,List.append_toArray,List.nil_append,List.cons_append]
   rfl):Calls P f args w R:=by
 subst hn ht
 exact calls_of_wp hf hb h
attribute [go_sem] Tryz.func11 Tryz.func13 Tryz.func14 Tryz.func17 Tryz.func18 Tryz.func20 Tryz.func25 Tryz.func31 Tryz.func32 Tryz.func33 Tryz.func34 Tryz.func35 Tryz.func36 Tryz.func37 Tryz.func38 Tryz.func39 Tryz.func40 Tryz.func42 Tryz.func45 Tryz.func46 Tryz.func47 Tryz.func48 Tryz.func50 Tryz.func51 Tryz.func52 Tryz.func53 Tryz.func54 Tryz.func55 Tryz.func60 Tryz.func61 Tryz.func64 Tryz.func65 Tryz.func66 Tryz.func67 Tryz.func68 Tryz.func69 Tryz.func70 Tryz.func71 Tryz.func72 Tryz.func73 Tryz.func75 Tryz.func76 Tryz.func77 Tryz.func79 Tryz.func80 Tryz.func81 Tryz.func82 Tryz.func83 Tryz.func84 Tryz.func85 Tryz.func86 Tryz.func87 Tryz.func88 Tryz.func89 Tryz.func90 Tryz.func91 Tryz.func92 Tryz.func93 Tryz.func94 Tryz.func95 Tryz.func96 Tryz.func97 Tryz.func98 Tryz.func104 Tryz.func105 Tryz.func108 Tryz.func109 Tryz.func110 Tryz.func111 Tryz.func112 Tryz.func113 Tryz.func114 Tryz.func115 Tryz.func117 Tryz.func119 Tryz.func120 Tryz.func121 Tryz.func122 Tryz.func123 Tryz.func124 Tryz.func125 Tryz.func126 Tryz.func128 Tryz.func129 Tryz.func130 Tryz.func131 Tryz.func132 Tryz.func133 Tryz.func134 Tryz.func135 Tryz.func138 Tryz.func139 Tryz.func140 Tryz.func141 Tryz.func143 Tryz.func144 Tryz.func145 Tryz.func146 Tryz.func147 Tryz.func148 Tryz.func149 Tryz.func151 Tryz.func152 Tryz.func153 Tryz.func154 Tryz.func156 Tryz.func158 Tryz.func159 Tryz.func160 Tryz.func161 Tryz.func162 Tryz.func163 Tryz.func164 Tryz.func165 Tryz.func166 Tryz.func167 Tryz.func168 Tryz.func169 Tryz.func170 Tryz.func171 Tryz.func173 Tryz.func174 Tryz.func175 Tryz.func176 Tryz.func179 Tryz.func180 Tryz.func181 Tryz.func183 Tryz.func184 Tryz.func186 Tryz.func187 Tryz.func188 Tryz.func189 Tryz.func190 Tryz.func191 Tryz.func192 Tryz.func194 Tryz.func195 Tryz.func196 Tryz.func197 Tryz.func198 Tryz.func199 Tryz.func200 Tryz.func201 Tryz.func202 Tryz.func203 Tryz.func204 Tryz.func206 Tryz.func212 Tryz.func216 Tryz.func217 Tryz.func218 Tryz.func220 Tryz.func221 Tryz.func222 Tryz.func223 Tryz.func224 Tryz.func225 Tryz.func226 Tryz.func232 Tryz.func233 Tryz.func234 Tryz.func236 Tryz.func237 Tryz.func238 Tryz.func239 Tryz.func240 Tryz.func243
theorem cV:(∀(a:Act) (v:Value),a.put none v=a)∧(∀(a:Act) (d:Tmp) (v:Value),a.put (some d) v={a with tmps:=a.tmps.setIfInBounds d v})∧
 (∀(α:Type) (l:List α) (i:Nat) (x:α),l.toArray.setIfInBounds i x=(l.set i x).toArray)∧
 (∀(α:Type) (l:List α) (x y:α),(x::l).set 0 y=y::l)∧
 (∀(α:Type) (l:List α) (x y:α) (i:Nat),(x::l).set (i+1) y=x::l.set i y)∧
 (∀(α:Type) (l:List α) (i:Nat) (h:i<l.toArray.size),l.toArray[i]=l[i]'(by simpa using h))∧
 (∀(α:Type) (l:List α) (x:α) (i:Nat) (h:i+1<(x::l).length),(x::l)[i+1]=l[i]'(by simpa using h))∧
 (∀(α:Type) (l:List α) (x:α) (h:0<(x::l).length),(x::l)[0]=x):=by
 refine⟨fun _ _=>rfl,fun _ _ _=>rfl,?_,fun _ _ _ _=>rfl,fun _ _ _ _ _=>rfl,fun _ _ _ _=>rfl,fun _ _ _ _ _=>rfl,fun _ _ _ _=>rfl⟩
 intro α l i x;simp
theorem Qm (w v:World) (a:Addr) (h:v.heap[a.block]? =w.heap[a.block]?):v.frozen? a=w.frozen? a:=by grind [World.frozen?]
theorem Qw (w v:World) (a:Addr) (h:v.heap[a.block]? =w.heap[a.block]?):v.cell? a=w.cell? a:=by grind [World.cell?]
theorem QG (w:World) (a:Addr) (x:Value) (hv:w.cell? a=some x): ∃c t f,w.heap[a.block]? =some (.cells c t f):=by grind [World.cell?]
open Go.RowKit
abbrev ak (b:Nat):Value:= .pointer (some ⟨b,0,none⟩)
abbrev ao (b:Nat):Addr:=⟨b,0,none⟩
abbrev af (b o:Nat):Addr:=⟨b,o,none⟩
abbrev ab (x:Int):Value:= .int .i64 x
abbrev aj (x:Int):Value:= .int .u64 x
abbrev aA (x:Int):Value:= .int .u8 x
abbrev aM (x:Int):Value:= .int .u32 x
abbrev aS (a:Array Value):Ending:= .returned (.tuple a)
abbrev aC (w:World):=Below w.heap.size w
abbrev aB:=Calls Tryz.prog
theorem aT {n:Nat}:n≤n:=Nat.le_refl _
theorem cj {n:Nat} {w:World}:Below n w w:=Below.refl _ _
theorem bq {w:World} {o:Obj}:Below w.heap.size w (w.alloc o):=(Below.refl _ _).alloc (Nat.le_refl _) _
abbrev vQ (f:Nat) (x:Array Value) (w:World) (v:Value):Prop:=aB f x w fun e w'=>e= .returned v∧aC w w'
abbrev vS (f:Nat) (x:Array Value) (w:World) (v:Value):Prop:=aB f x w fun e w'=>e= .returned v∧w'=w
theorem cS {P:Program} {f:Nat} {x:Array Value} {w:World} {v:Ending} {Q:Ending→World→Prop} (h:Calls P f x w (fun e w'=>e=v∧w'=w)) (k:Q v w):Calls P f x w Q:=h.mono (by rintro e w1 ⟨rfl,rfl⟩;exact k)
theorem cH {P:Program} {f:Nat} {x:Array Value} {w:World} {v:Ending} {Q:Ending→World→Prop} {R:World→Prop} (h:Calls P f x w (fun e w'=>e=v∧R w')) (k: ∀w',Hid (R w')→Q v w'):Calls P f x w Q:=h.mono (by rintro e w1 ⟨rfl,r⟩;exact k w1 r)
theorem cI {P:Program} {f:Nat} {x:Array Value} {w:World} {v:Ending} {Q:Ending→World→Prop} {R S:World→Prop} (h:Calls P f x w (fun e w'=>e=v∧R w'∧S w')) (k: ∀w',Hid (R w')→Hid (S w')→Q v w'):Calls P f x w Q:=h.mono (by rintro e w1 ⟨rfl,r,s⟩;exact k w1 r s)
theorem Qo (w:World) (b o b' o':Nat) (x:Value) {u:Value} (h:w.cell? (af b' o')=some u):(w.setCell (af b o) x).cell? (af b' o')=if b'=b∧o'=o then some x else some u:=by
 split
 ·rename_i e
  obtain⟨rfl,rfl⟩:=e
  exact World.cell?_setCell_same _ _ _ h
 ·rw[World.cell?_setCell_other _ _ _ _ (by grind)];exact h
theorem LX {w v:World} {b:Nat} (h:v.heap[b]? =w.heap[b]?):(∀o,v.cell? (af b o)=w.cell? (af b o))∧ ∀o,v.frozen? (af b o)=w.frozen? (af b o):=⟨fun _=>Qw _ _ _ h,fun _=>Qm _ _ _ h⟩
theorem mK {p:Prop} (h:p:=by cases h;constructor<;>grind [Qo,World.frozen?_setCell,ay]):p:=h
end Go.Proofs.YtnmhcgpnhlhcgaaGreatDoor
namespace Go.Proofs.YtnmhcgpnhlhcgaaGreatDoor
def qt (o:Oper):Bool:=
 match o.op with
 | .alloc _| .store .. | .buildSlice .. | .box .. | .makeFunc .. | .mapUpdate .. | .makeMap .. | .makeSlice .. | .insert .. =>false
 | .call c=>match c.callee with
  | .builtin b=>b== .len||b== .cap||b== .min||b== .max
  |_=>false
 |_=>true
def Dk (md:Region.Mode) (listed:Array Bool) (o:Oper):Bool:=o.after.toList.all fun e=> !Region.binds md e||listed.getD e.on false
section
variable {P:Program} {ops:Array Oper} {Q:Exit→Act→World→Prop} {md:Region.Mode} {S:World→Prop} {fuel:Nat} {listed l':Array Bool} {a a':Act} {w:World}
theorem GL {i:Nat} {o:Oper} (hz:listed[i]? =some false) (hi:ops[i]? =some o) (hr:Dk md listed o=true):(Region.ready md ops listed).contains i=true:=by
 have:=mem_ready (md:=md) (ops:=ops) (j:=i) (listed:=listed)
 simp only[Dk,List.all_eq_true,Array.mem_toList_iff] at hr
 simp only[List.contains_iff_mem,this]
 refine⟨by simp[Array.getD_eq_getD_getElem?,hz],o,hi,fun e he hb=> ?_⟩
 have:=hr e he
 simp_all
theorem JN {i:Nat} {o:Oper} (hi:ops[i]? =some o) (hr:(listed.getD i true|| !Dk md listed o)=true):(Region.ready md ops listed).contains i=false:=by
 have hm:=mem_ready (md:=md) (ops:=ops) (j:=i) (listed:=listed)
 cases hc:(Region.ready md ops listed).contains i with
 |false=>rfl
 |true=>
  simp only[List.contains_iff_mem,hm] at hc
  obtain⟨h1,o',h2,h3⟩:=hc
  rw[hi] at h2
  cases h2
  rw[h1] at hr
  have:Dk md listed o=true:=by
   simp only[Dk,List.all_eq_true,Array.mem_toList_iff]
   intro e he
   cases hb:Region.binds md e with
   |false=>simp
   |true=>simp[h3 e he hb]
  rw[this] at hr
  cases hr
theorem st {n:Nat} (h:wpAnyH P md ops Q S n l' a w)
  (hn:ops.size=n:=by
   simp only[List.size_toArray,List.length_cons,List.length_nil,Nat.reduceAdd]
   rfl)
  (hl:Array.replicate n false=l':=by
   simp only[<-List.toArray_replicate,List.replicate_succ,List.replicate_zero]
   rfl):wpAnyH P md ops Q S ops.size (Array.replicate ops.size false) a w:=by
 subst hn hl
 exact h
structure HL (P:Program) (md:Region.Mode) (ops:Array Oper) (Q:Exit→Act→World→Prop) (S:World→Prop) (fuel:Nat) (listed:Array Bool) (a:Act) (w:World) (l':Array Bool) (a':Act) (r:List Bool) (k:Nat):Prop where
 out:listed.toList.drop k=r→wpAnyH P md ops Q S fuel l' a' w→wpAnyH P md ops Q S (fuel+1) listed a w
theorem Qz {r:List Bool} {k:Nat} (h:HL P md ops Q S fuel listed a w l' a' r (k+1)):HL P md ops Q S fuel listed a w l' a' (true::r) k:=⟨fun e=>h.out (by rw[<-List.drop_drop,e];rfl)⟩
theorem Qx {r:List Bool} {k:Nat} (h:HL P md ops Q S fuel listed a w l' a' r (k+1)):HL P md ops Q S fuel listed a w l' a' (false::r) k:=⟨fun e=>h.out (by rw[<-List.drop_drop,e];rfl)⟩
theorem Qa {r:List Bool} {k:Nat} (e:listed.toList.drop k=false::r):listed[k]? =some false:=by
 have:(listed.toList.drop k)[0]? =some false:=by rw[e];rfl
 simpa using this
theorem Qt {i:Nat} {r:List Bool} {oi:Oper} {v:Value}
  (hi:ops[i]? =some oi:=by exact rfl) (hq:qt oi=true:=by exact rfl) (hr:Dk md listed oi=true:=by exact rfl)
  (hw:Region.wanted oi (yielded ops a.tmps)=true:=by exact rfl) (hS:S w:=by assumption)
  (hy: ∀w,S w→(execOp a.eval oi).run P w= .ok (.value v) w:=by
   intro w hSw
   (try dsimp only at hSw)
   repeat(obtain⟨_,hSw⟩:=hSw)
   go_simp
   try with_reducible rfl)
  (ha:a.put oi.dst v=a':=by
   (try simp only[cV])
   try rfl)
  (hl:listed.setIfInBounds i true=l':=by
   (try simp only[cV])
   try rfl)
  (hf:Region.free md ops listed i=true:=by kernel_rfl) (hs:Region.noSelect ops=true:=by kernel_rfl)
  (hQ: ∀c a w,Q (.panic c) (a.put oi.dst v) w→Q (.panic c) a w:=by exact fun _ _ _ h=>h):HL P md ops Q S fuel listed a w l' a' (false::r) i:=by
 subst ha hl
 have _:=hq
 exact⟨fun e h=>wpAnyH_take hi hs hf (GL (Qa e) hi hr) hQ (.inl ⟨hw,hy⟩) hS h⟩
theorem Qq {i:Nat} {r:List Bool} {oi:Oper}
  (hi:ops[i]? =some oi:=by exact rfl) (hr:Dk md listed oi=true:=by exact rfl)
  (hw:Region.wanted oi (yielded ops a.tmps)=false:=by exact rfl) (hS:S w:=by assumption)
  (ha:a.put oi.dst undef=a':=by
   (try simp only[cV])
   try rfl)
  (hl:listed.setIfInBounds i true=l':=by
   (try simp only[cV])
   try rfl)
  (hf:Region.free md ops listed i=true:=by kernel_rfl) (hs:Region.noSelect ops=true:=by kernel_rfl)
  (hQ: ∀c a w,Q (.panic c) (a.put oi.dst undef) w→Q (.panic c) a w:=by exact fun _ _ _ h=>h):HL P md ops Q S fuel listed a w l' a' (false::r) i:=by
 subst ha hl
 exact⟨fun e h=>wpAnyH_take hi hs hf (GL (Qa e) hi hr) hQ (.inr ⟨hw,rfl⟩) hS h⟩
theorem tk {l:List Bool} (h:wpAnyH P md ops Q S fuel l' a' w) (el:listed=l.toArray:=by exact rfl) (hb:l.all id=false:=by exact rfl)
  (e:HL P md ops Q S fuel listed a w l' a' l 0:=by
   repeat first
    |with_reducible apply Qz
    |exact Qt
    |exact Qq
    |with_reducible apply Qx):wpAnyH P md ops Q S (fuel+1) listed a w:=by
 have _:=hb
 exact e.out (by rw[el];rfl) h
structure O4 (P:Program) (md:Region.Mode) (ops:Array Oper) (Q:Exit→Act→World→Prop) (S:World→Prop) (fuel:Nat) (listed:Array Bool) (a:Act) (w:World) (i:Nat) (o:Oper):Prop where
 out:(Region.ready md ops listed).contains i=true→ops[i]? =some o→ ∀K':Act→World→Prop,Shut (∀a w,S w→(S w→wpAnyH P md ops Q S fuel (listed.setIfInBounds i true) a w)→K' a w)→if Region.wanted o (yielded ops a.tmps)=true then Oper.wp P o a w K' Q else K' (a.put o.dst undef) w
inductive FB (P:Program) (md:Region.Mode) (ops:Array Oper) (Q:Exit→Act→World→Prop) (S:World→Prop) (fuel:Nat) (listed:Array Bool) (a:Act) (w:World):List Oper→Nat→Prop
 |nil {i:Nat}:FB P md ops Q S fuel listed a w [] i
 |cons {o:Oper} {os:List Oper} {i:Nat}:O4 P md ops Q S fuel listed a w i o→FB P md ops Q S fuel listed a w os (i+1)→FB P md ops Q S fuel listed a w (o::os) i
theorem FB.at {os:List Oper}: ∀{k:Nat},FB P md ops Q S fuel listed a w os k→ ∀(j:Nat) (o:Oper),os[j]? =some o→O4 P md ops Q S fuel listed a w (k+j) o:=by
 induction os with
 |nil=>intro k _ j o h;simp at h
 |cons x xs ih=>
  intro k h j o hj
  cases h with
  |cons h1 h2=>
   cases j with
   |zero=>simp at hj;subst hj;exact h1
   |succ j=>simpa [Nat.add_assoc,Nat.add_comm 1 j] using ih h2 j o (by simpa using hj)
theorem rd {os:List Oper} (h:FB P md ops Q S fuel listed a w os 0) (hops:ops=os.toArray:=by exact rfl) (hne:(Region.ready md ops listed).isEmpty=false:=by decide+kernel):wpAnyH P md ops Q S (fuel+1) listed a w:=by
 refine wpAnyH_all rfl (fun e=>by rw[e] at hne;exact absurd hne (by decide)) (fun i hi=> ?_)
 obtain⟨_,o,ho,_⟩:=mem_ready.1 hi
 have h1:=h.at i o (by rw[hops] at ho;simpa using ho)
 rw[Nat.zero_add] at h1
 exact wpOp_step ho (fun K' hK=>h1.out (by simpa using hi) ho K' (fun a w hS hW=>hK a w ⟨hS,hW hS⟩))
theorem oA {i:Nat}:FB P md ops Q S fuel listed a w [] i:= .nil
theorem oC {o:Oper} {os:List Oper} {i:Nat} (h1:O4 P md ops Q S fuel listed a w i o) (h2:FB P md ops Q S fuel listed a w os (i+1)):FB P md ops Q S fuel listed a w (o::os) i:= .cons h1 h2
theorem oE {o:Oper} {os:List Oper} {i:Nat} (h2:FB P md ops Q S fuel listed a w os (i+1)) (hn:(listed.getD i true|| !Dk md listed o)=true:=by exact rfl):FB P md ops Q S fuel listed a w (o::os) i:=
 .cons ⟨fun h hi=>(by rw[JN hi hn] at h;cases h)⟩ h2
theorem dU (i:Nat) {o:Oper} (h: ∀K':Act→World→Prop,Shut (∀a w,S w→(S w→wpAnyH P md ops Q S fuel (listed.setIfInBounds i true) a w)→K' a w)→if Region.wanted o (yielded ops a.tmps)=true then Oper.wp P o a w K' Q else K' (a.put o.dst undef) w):O4 P md ops Q S fuel listed a w i o:=⟨fun _ _=>h⟩
structure Dn (p:Prop):Prop where
 out:p
theorem dn {l:List Bool} (h:Dn (Q .normal a w)) (el:listed=l.toArray:=by exact rfl) (hr:l.all id=true:=by exact rfl):wpAnyH P md ops Q S fuel listed a w:=by
 refine wpAnyH_done ?_ h.out _
 refine List.eq_nil_iff_forall_not_mem.2 (fun j hj=> ?_)
 have h1:=(mem_ready.1 hj).1
 rw[el] at h1
 simp only[Array.getD_eq_getD_getElem?,List.getElem?_toArray] at h1
 cases hx:l[j]? with
 |none=>simp[hx] at h1
 |some b=>
  have:=List.all_eq_true.1 hr b (List.mem_of_getElem? hx)
  simp_all
end
open Go.RowKit
set_option linter.unusedSectionVars false
theorem aa {p:Prop} (h:p):Hid p:=h
section
variable {H:Type} {enc:TypeId×Value→H} {w:World} {base:Nat} {spare:Nat→Bool} {held:Bool}
end
def lenOf:Value→Nat
 | .slice _ n _=>n
 |_=>0
def mf (a b:Int):Int:=if a<b then 0 else a-b
theorem Je (a b:Int) (w:World) (a0:0≤a) (a1:a≤18446744073709551615) (b0:0≤b) (b1:b≤18446744073709551615):
  vS 189 #[aj a,aj b] w (aj (mf a b)):=by
 unfold mf
 by_cases h:a<b
 ·rw[if_pos h]
  refine ge ?_
  go_wp2
  go_ret
  simp
 ·rw[if_neg h]
  have h':b≤a:=by omega
  refine ge ?_
  go_wp2
  go_ret
  simp
theorem JQ (a b:Int) (a0:0≤a) (a1:a≤18446744073709551615) (b0:0≤b):0≤mf a b∧mf a b≤18446744073709551615:=by
 unfold mf;omega
def ay {α:Type} (f:Nat→α) (i:Nat) (x:α):Nat→α:=fun j=>if j=i then x else f j
theorem aE {α:Type} (f:Nat→α) (i:Nat) (x:α):ay f i x i=x:=by simp[ay]
theorem aq {α:Type} (f:Nat→α) (i:Nat) (x:α) (j:Nat) (h:j≠i):ay f i x j=f j:=by simp[ay,h]
structure aW (b g:Nat) (w w':World):Prop where
 os:w'.os=w.os
 tape:w'.tape=w.tape
 output:w'.output=w.output
 size:w.heap.size≤w'.heap.size
 block: ∀k,k<w.heap.size→k≠b→k≠g→w'.heap[k]? =w.heap[k]?
theorem aW.refl (b g:Nat) (w:World):aW b g w w:=⟨rfl,rfl,rfl,aT,fun _ _ _ _=>rfl⟩
theorem aW.trans {b g:Nat} {w1 w2 w3:World} (h:aW b g w1 w2) (k:aW b g w2 w3):aW b g w1 w3:=
 ⟨k.os.trans h.os,k.tape.trans h.tape,k.output.trans h.output,Nat.le_trans h.size k.size,fun i hi a c=>(k.block i (Nat.lt_of_lt_of_le hi h.size) a c).trans (h.block i hi a c)⟩
theorem aW.drew {b g:Nat} {w w':World} (h:aW b g w w'):aW b g w w'.drew:=⟨h.os,h.tape,h.output,h.size,h.block⟩
theorem aW.alloc {b g:Nat} {w w':World} (h:aW b g w w') (o:Obj):aW b g w (w'.alloc o):=
 ⟨h.os,h.tape,h.output,Nat.le_trans h.size (by simp),fun k hk a c=>by rw[Below.heap_alloc _ _ _ (Nat.lt_of_lt_of_le hk h.size)];exact h.block k hk a c⟩
theorem aW.set {b g:Nat} {w w':World} (h:aW b g w w') (p:Addr) (x:Value) (hp:p.block=b∨p.block=g):aW b g w (w'.setCell p x):=
 ⟨h.os,h.tape,h.output,by simp[World.setCell];exact h.size,fun k hk a c=>by rw[Below.heap_setCell _ _ _ _ (by omega)];exact h.block k hk a c⟩
theorem bE (w:World) (c:Array Value) (t:TypeId) (i:Nat):(w.alloc (.cells c t)).cell? (af w.heap.size i)=c[i]? :=by
 simp
theorem cA (w:World) (c:Array Value) (t:TypeId) (i:Nat):(w.alloc (.cells c t)).frozen? (af w.heap.size i)=false:=by
 simp
theorem aW.jK {b g:Nat} {w w':World} (h:aC w w'):aW b g w w':=⟨h.os,h.tape,h.output,h.size,fun k hk _ _=>h.block k hk⟩
theorem aW.drewN {b g:Nat} {w w':World} (h:aW b g w w') (q:Nat):aW b g w (w'.drewN q):=⟨h.os,h.tape,h.output,h.size,h.block⟩
section
variable {H:Type} {enc:TypeId×Value→H} {w:World} {base:Nat} {spare:Nat→Bool} {held:Bool}
end
structure Fr (S:Nat→Prop) (w w':World):Prop where
 os:w'.os=w.os
 tape:w'.tape=w.tape
 output:w'.output=w.output
 size:w.heap.size≤w'.heap.size
 block: ∀k,k<w.heap.size→ ¬S k→w'.heap[k]? =w.heap[k]?
section
variable {S S':Nat→Prop} {w w' w'':World}
theorem Fr.refl (S:Nat→Prop) (w:World):Fr S w w:=⟨rfl,rfl,rfl,aT,fun _ _ _=>rfl⟩
theorem Fr.wide (h:Fr S w w') (hs: ∀k,k<w.heap.size→S k→S' k):Fr S' w w':=⟨h.os,h.tape,h.output,h.size,fun k hk hn=>h.block k hk (fun q=>hn (hs k hk q))⟩
theorem Fr.trans (h:Fr S w w') (h':Fr S w' w''):Fr S w w'':=
 ⟨h'.os.trans h.os,h'.tape.trans h.tape,h'.output.trans h.output,Nat.le_trans h.size h'.size,fun k hk hn=>(h'.block k (Nat.lt_of_lt_of_le hk h.size) hn).trans (h.block k hk hn)⟩
theorem Fr.alloc (h:Fr S w w') (o:Obj):Fr S w (w'.alloc o):=
 ⟨h.os,h.tape,h.output,Nat.le_trans h.size (by simp),fun k hk hn=>(Below.heap_alloc _ _ _ (Nat.lt_of_lt_of_le hk h.size)).trans (h.block k hk hn)⟩
theorem Fr.setCell (h:Fr S w w') {a:Addr} (hb:S a.block) (u:Value):Fr S w (w'.setCell a u):=
 ⟨h.os,h.tape,h.output,by simpa using h.size,fun k hk hn=>(Below.heap_setCell _ _ _ _ (fun e=>hn (by rw[e];exact hb))).trans (h.block k hk hn)⟩
theorem Fr.drewN (h:Fr S w w') (q:Nat):Fr S w (w'.drewN q):=⟨h.os,h.tape,h.output,h.size,h.block⟩
theorem Fr.drew (h:Fr S w w'):Fr S w w'.drew:=⟨h.os,h.tape,h.output,h.size,h.block⟩
theorem Fr.cell (h:Fr S w w') {a:Addr} (hk:a.block<w.heap.size) (hn: ¬S a.block):w'.cell? a=w.cell? a:=World.cell?_of_block (h.block _ hk hn)
theorem Fr.frozen (h:Fr S w w') {a:Addr} (hk:a.block<w.heap.size) (hn: ¬S a.block):w'.frozen? a=w.frozen? a:=World.frozen?_of_block (h.block _ hk hn)
theorem Fr.aF (h:aC w w'):Fr S w w':=⟨h.os,h.tape,h.output,h.size,fun k hk _=>h.block k hk⟩
theorem Fr.below {B:Nat} (h:Fr S w w') (hb:B≤w.heap.size) (hs: ∀k,S k→B≤k):Below B w w':=⟨h.os,h.tape,h.output,h.size,fun k hk=>h.block k (by omega) (fun q=>by grind)⟩
theorem Fr.EU {row:Option Nat} (h:w.grownBy w' row):Fr (fun k=>some k=row) w w':=⟨h.os,h.tape,h.output,h.size,h.block⟩
end
theorem I1 {w:World} {base base':Nat} {e:TypeId} {size:Nat} {v:Value} {n:Nat} {xs:List Value} (h:w.ownsRow base e size v n xs) (hb:base'≤base):w.ownsRow base' e size v n xs:=by
 refine⟨h.1,?_⟩
 rcases h.2 with hn|⟨g,cap,cur,e,h0,rest⟩
 ·grind
 ·exact .inr ⟨g,cap,cur,e,Nat.le_trans hb h0,rest⟩
theorem zU {w w':World} {S:Nat→Prop} {base:Nat} {e:TypeId} {size:Nat} {v:Value} {n:Nat} {xs:List Value} (h:w.ownsRow base e size v n xs) (hf:Fr S w w') (h2: ∀k,base≤k→k<w.heap.size→ ¬S k):w'.ownsRow base e size v n xs:=by
 refine⟨h.1,?_⟩
 rcases h.2 with hn|⟨g,cap,cur,rfl,hb,hgg,rest⟩
 ·grind
 ·refine .inr ⟨g,cap,cur,rfl,hb,?_,rest⟩
  rw[hf.block g (Array.getElem?_eq_some_iff.1 hgg).1 (h2 g hb (Array.getElem?_eq_some_iff.1 hgg).1)]
  exact hgg
theorem j4:(Tryz.prog.info? 3).map (fun i=>(i.zero,i.size,i.bytes))=some (some (ab 0),1,8):=by rfl
theorem tight {H:Type} {P:Program} {k:TypeId} {R:Value→Option (DataW H×List MemPlace)} {w:World} {b n:Nat} {D:DataW H} (h:w.ownsMap P k R b n D) {s:Nat} (hs:Maps.size D=s):w.ownsMap P k R b s D:=by
 obtain⟨es,clock,hb,F,_,rfl⟩:=h
 exact⟨es,clock,hb,F,by rw[<-hs];simp[Maps.size,DataW.length_sorted],rfl⟩
theorem aZ {w:World} {base:Nat} {e:TypeId} {size g n cap:Nat} {xs:List Value} (h:w.ownsRow base e size (.slice (some (ao g)) n cap) n xs) (k:Nat) (hk:k<n*size) (u:Value):
  (w.setCell (af g k) u).ownsRow base e size (.slice (some (ao g)) n cap) n (xs.set k u):=by
 refine⟨by simpa using h.1,?_⟩
 rcases h.2 with ⟨e1,_⟩|⟨g',cap',cur,e1,h0,h1,h2,h3,h4,h5⟩
 ·grind
 ·simp at e1
  obtain⟨rfl,rfl⟩:=e1
  refine .inr ⟨g,cap,cur.setIfInBounds k u,rfl,h0,?_,h2,h3,by grind,?_⟩
  ·exact Go.Joins.block_setCell h1 u
  ·rw[<-h5]
   simp[List.take_set]
theorem dP {w:World} {base:Nat} {e:TypeId} {size g n cap:Nat} {xs:List Value} (h:w.ownsRow base e size (.slice (some (ao g)) n cap) n xs) (k:Nat):w.frozen? (af g k)=false:=by
 rcases h.2 with ⟨e1,_⟩|⟨g',cap',cur,e1,h0,h1,h2,h3,h4,h5⟩
 ·grind
 ·simp at e1
  obtain⟨rfl,rfl⟩:=e1
  unfold World.frozen?
  simp[h1]
theorem aO {w:World} {base:Nat} {e:TypeId} {size:Nat} {v:Value} {n:Nat} {xs:List Value} (h:w.ownsRow base e size v n xs) {w':World} (hh: ∀k,v.ownBlock=some k→w'.heap[k]? =w.heap[k]?):w'.ownsRow base e size v n xs:=by
 refine⟨h.1,?_⟩
 rcases h.2 with hn|⟨g,cap,cur,rfl,hb,hgg,rest⟩
 ·grind
 ·exact .inr ⟨g,cap,cur,rfl,hb,(hh g rfl).trans hgg,rest⟩
theorem au {w:World} {base:Nat} {e:TypeId} {size:Nat} {v:Value} {n:Nat} {xs:List Value} (h:w.ownsRow base e size v n xs) {k:Nat} (hk:v.ownBlock=some k):base≤k∧k<w.heap.size∧ ∃cur,w.heap[k]? =some (.cells cur e (0,0)):=by
 rcases h.2 with ⟨rfl,_⟩|⟨g,cap,cur,rfl,hb,hgg,rest⟩
 ·simp[Value.ownBlock] at hk
 ·simp[Value.ownBlock] at hk
  grind
def Kept (l D:Nat) (r:Loop) (W:World):Prop:=W.heap[l]? =some (.loop r)∧W.heap[D]? =some (.deferred (some []))
theorem Kept.alloc {l D:Nat} {r:Loop} {W:World} (h:Kept l D r W) (o:Obj):Kept l D r (W.alloc o):=
 ⟨(Below.heap_alloc _ _ _ (Array.getElem?_eq_some_iff.1 h.1).1).trans h.1,(Below.heap_alloc _ _ _ (Array.getElem?_eq_some_iff.1 h.2).1).trans h.2⟩
section
variable {H:Type} {enc:TypeId×Value→H} {w:World} {base:Nat} {spare:Nat→Bool} {held:Bool}
end
set_option linter.unusedSectionVars false
def po (ops:Array Oper):Bool:=ops.all fun o=>match o.op with
 | .defer _=>false
 |_=>true
theorem yE {ops:Array Oper} (h:po ops=true) {i:Nat} {o:Oper} (ho:ops[i]? =some o): ∀c,o.op≠ .defer c:=by
 intro c e
 unfold po at h
 grind
theorem yi {P:Program} {o:Oper} {a:Act} {w:World} {K:Act→World→Prop} {Q:Exit→Act→World→Prop} {l n:Nat} (hd: ∀c,o.op≠ .defer c) (h:o.wp P a w K Q):o.wpIn (Fence.wide.inRound l) n P a w K Q:=by
 refine⟨fun _ _=>trivial,?_⟩
 rw[Oper.semAt_eq _ _ _ hd]
 unfold Oper.wp at h
 revert h
 generalize (execOp a.eval o).run P w=r
 intro h
 match r,h with
 | .ok (.value _) _,h=>exact h
 | .ok .skip _,h=>exact h
 | .ok (.defer _) _,h=>exact h
 | .ok (.enter f args) w',h=>exact⟨fun q=>absurd q (by simp[Fence.inRound,Fence.wide]),CallsIn.inRound l (callsIn_wide.2 h)⟩
 | .ok (.row row args) w',h=>
  refine⟨fun q=>absurd q (by simp[Fence.inRound,Fence.wide]),fun c cs _=> ?_⟩
  obtain⟨v,w'',r1,s⟩:=h c cs
  exact⟨v,w'',r1,stepsIn_wide.2 s⟩
 | .halt (.panic _) _,h=>exact h
theorem kF {P:Program} {md:Region.Mode} {ops:Array Oper} {Q:Exit→Act→World→Prop} {l n:Nat} (hd:po ops=true) (hlo: ¬LetsOut Q): ∀(fuel:Nat) (listed:Array Bool) (a:Act) (w:World),wpAny P md ops Q fuel listed a w→wpAnyIn (Fence.wide.inRound l) n P md ops Q fuel listed a w
 |0,_,_,_,h=>h
 |fuel+1,_,a,w,h=>⟨h.1,fun i hi=>by
  have h2:=h.2 i hi
  unfold wpOp at h2
  unfold wpOpIn
  cases ho:ops[i]? with
  |none=>rw[ho] at h2;exact kF hd hlo fuel _ _ _ h2
  |some o=>
   rw[ho] at h2
   dsimp only at h2|-
   by_cases hw:Region.wanted o (yielded ops a.tmps)=true
   ·rw[if_pos hw] at h2|-
    rcases h2 with h2|h2
    ·exact yi (yE hd ho) (Oper.wp_mono (fun a w q=>kF hd hlo fuel _ a w q) h2)
    ·exact absurd h2.2 hlo
   ·rw[if_neg hw] at h2|-
    exact⟨fun _ _=>trivial,kF hd hlo fuel _ _ _ h2⟩⟩
theorem fe {P:Program} {id:Nat} {ops:Array Oper} {Q:Exit→Act→World→Prop} {l n:Nat} {a:Act} {w:World} (S:World→Prop) (hm:P.follows .mixedOrders=true) (hd:po ops=true) (hlo: ¬LetsOut Q) (hS:S w.drew)
  (h:S w.drew→wpAnyH P .any ops Q S ops.size (Array.replicate ops.size false) a w.drew):(Code.region id ops true).wpIn (Fence.wide.inRound l) n P Q a w:=
 wpIn_region_any hm (kF hd hlo _ _ _ _ (wpAny_of_held _ _ _ _ (h hS)))
theorem Kept.put {l D:Nat} {r:Loop} {W:World} (h:Kept l D r W) (hne:l≠D) (r':Loop):Kept l D r' (W.putObj l (.loop r')):=
 ⟨World.putObj_heap_same (Array.getElem?_eq_some_iff.1 h.1).1,(World.putObj_heap_other (Ne.symm hne)).trans h.2⟩
theorem Kept.keeps {l D B:Nat} {r:Loop} {W W':World} (h:Kept l D r W) (hl:B≤l) (hD:B≤D) (hk:KeepsFrom B W W'):Kept l D r W':=
 ⟨hk.same l _ hl h.1 rfl,hk.same D _ hD h.2 rfl⟩
open Go.RowKit
abbrev i4:=@Below.refl
abbrev i5:=@World.cell?_of_block
abbrev i6:=@List.getElem?_eq_some_iff
abbrev i7:=@World.block_lt_of_cell?
abbrev i8:=@Nat.lt_of_lt_of_le
abbrev i9:=@List.mem_of_getElem?
abbrev v9:=@List.getElem?_append_right
abbrev zZ0:=@Below.heap_setCell
abbrev zY0:=@Nat.le_trans
abbrev zX0:=@List.getElem?_eq_getElem
abbrev zW0:=@Array.getElem?_eq_some_iff
abbrev zV0:=@World.frozen?_of_block
abbrev zU0:=@Below.heap_alloc
abbrev yZ0:=@List.mem_or_eq_of_mem_set
abbrev yY0:=@Int.eq_ofNat_of_zero_le
abbrev yX0:=@KeepsOthers.setCell
abbrev yW0:=@World.alloc_heap_new
abbrev yV0:=@List.nodup_cons
abbrev yU0:=@decide_eq_false
abbrev xZ0:=@decide_eq_true
theorem z_ {p:Prop} (h:p:=by omega):p:=h
theorem y_ {p:Prop} (h:p:=by grind):p:=h
theorem x_ {p:Prop} (h:p:=by decide):p:=h
theorem q_ {p:Prop} (h:p:=by simp):p:=h
theorem j_:(∀(α:Type) (l:List α),l.toArray.size=l.length)∧(∀(α:Type) (x:α) (l:List α),(x::l).length=l.length+1)∧(∀α:Type,([]:List α).length=0)∧(∀(α:Type) (n:Nat) (x:α),Array.replicate (n+1) x=(Array.replicate n x).push x)∧(∀(α:Type) (x:α),Array.replicate 0 x=#[])∧(∀(α:Type) (l:List α) (x:α),l.toArray.push x=(l++[x]).toArray)∧(∀(α:Type) (l m:List α),l.toArray++m.toArray=(l++m).toArray)∧(∀(α:Type) (l:List α),[]++l=l)∧ ∀(α:Type) (x:α) (l m:List α),x::l++m=x::(l++m):=by simp[Array.replicate_succ]
end Go.Proofs.YtnmhcgpnhlhcgaaGreatDoor

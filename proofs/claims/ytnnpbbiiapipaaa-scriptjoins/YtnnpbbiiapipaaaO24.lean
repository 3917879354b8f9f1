/- ProgBytes: what each call comes to, in one word. -/
import Derived.Test.YtnnpbbiiapipaaaO23
namespace Go.Proofs.Ytnnpbbiiapipaaa
open Go.RowKit Go.Lib
theorem rsame_nil (w : World) : Calls Try.prog 32 #[.slice none 0 0, .slice none 0 0] w fun e w' => e = .returned (.bool true) ∧ Below w.heap.size w w' := by
  go_enter Try.func32, Try.ntmps32
  go_wp2
  go_loopw [5] (fun i wr => i = .int .i64 0 ∧ wr = w) (fun _ _ => 0)
  case atStart => exact ⟨rfl, rfl⟩
  case round =>
    obtain ⟨rfl, rfl⟩ := hrel
    go_wp2
    go_ret
    exact ⟨rfl, Below.refl _ _⟩
/-- What a slice of bytes says, in whatever world comes behind. -/
def Says (w : World) (v : Value) (S : ByteArray) : Prop := ∀ W, Below w.heap.size w W → (convert 24 9 v).run Try.prog W = .ok (.string S) W
theorem Says.below {w w' : World} {v : Value} {S : ByteArray} (h : Says w v S) (hb : Below w.heap.size w w') : Says w' v S := fun W hW => h W (hb.trans (hW.mono hb.size))
theorem says_row {w : World} {base : Nat} {v : Value} {n : Nat} {zs : List Int} (h : w.ownsRow base 5 1 v n (zs.map (Value.int .u8))) : Says w v (strOfNums zs) := fun W hb => str_row W base v n zs (row_below h hb)
/-- What a program's bytes say; the code. -/
theorem enc_says (m : Nat) (O R : Nat → Int) (hm : m < 9223372036854775808) : ∃ (S : ByteArray) (c : Int), (∀ (w : World) (a : Option Addr) (cap : Nat), Prg w a m O R → Calls Try.prog 35 #[.slice a m cap] w fun e w' => ∃ v, e = .returned (.tuple #[v, .int .i64 c]) ∧ Says w' v S ∧ Below w.heap.size w w') ∧
    (∀ (w : World) (a : Option Addr) (cap : Nat), Prg w a m O R → Calls Try.prog 37 #[.slice a m cap] w fun e w' => ∃ v, e = .returned (.tuple #[v, .int .i64 c]) ∧ Says w' v S ∧ Below w.heap.size w w') := by
  by_cases hr : Rt m O R
  · have hr2 := hr
    obtain ⟨y0, hy0⟩ := hr2
    obtain ⟨hl1, hl2, hall, _, _⟩ := hy0.zero
    obtain ⟨ys, e1, _, _, _⟩ := enc_bytes hl2 m (Nat.le_refl _) hall
    have e2 : enc m O R m = (ys.map fun (x : Nat) => (x : Int)).map (Value.int .u8) := by rw [e1]; simp [u8s, Function.comp_def]
    refine ⟨strOfNums (ys.map fun (x : Nat) => (x : Int)), 0, fun w a cap hp => (encode_yes w a m cap hm O R hp hr).mono ?_, fun w a cap hp => (rencode_yes w a m cap hm O R hp hr).mono ?_⟩
    · rintro e w' ⟨v, rfl, ho, hb⟩
      rw [e2] at ho
      exact ⟨v, rfl, says_row ho, hb⟩
    · rintro e w' ⟨v, rfl, ho, hb⟩
      rw [e2] at ho
      exact ⟨v, rfl, says_row ho, hb⟩
  · refine ⟨strOfNums [], 3, fun w a cap hp => (encode_no w a m cap hm O R hp hr).mono ?_, fun w a cap hp => (rencode_no w a m cap hm O R hp hr).mono ?_⟩
    · rintro e w' ⟨rfl, hb⟩
      exact ⟨_, rfl, says_row (zs := []) (World.ownsRow_nil w' w'.heap.size _ _), hb⟩
    · rintro e w' ⟨rfl, hb⟩
      exact ⟨_, rfl, says_row (zs := []) (World.ownsRow_nil w' w'.heap.size _ _), hb⟩
/-- What is read of bytes. -/
def Got (w : World) (X : Nat → Nat) (len : Nat) (v : Value) : Prop :=
  (len = 1 + 4 * X 0 ∧ Rt (X 0) (deO X) (deR X)) ∧ (∃ a cap, v = .slice a (X 0) cap ∧ Prg w a (X 0) (deO X) (deR X)) ∨ ¬ (len = 1 + 4 * X 0 ∧ Rt (X 0) (deO X) (deR X)) ∧ v = .slice none 0 0
theorem Got.below {w w' : World} {X : Nat → Nat} {len : Nat} {v : Value} (h : Got w X len v) (hb : Below w.heap.size w w') : Got w' X len v := by
  rcases h with ⟨h1, a, cap, e, hp⟩ | h
  · exact .inl ⟨h1, a, cap, e, hp.below hb⟩
  · exact .inr h
theorem dec_got (X : Nat → Nat) (len : Nat) : ∃ c : Int, (∀ (w : World) (a : Option Addr) (cap : Nat), Byt w a len X → len ≤ cap → cap < 9223372036854775808 → Calls Try.prog 42 #[.slice a len cap] w fun e w' => ∃ v, e = .returned (.tuple #[v, .int .i64 c]) ∧ Got w' X len v ∧ Below w.heap.size w w') ∧
    (∀ (w : World) (a : Option Addr) (cap : Nat), Byt w a len X → len ≤ cap → cap < 9223372036854775808 → Calls Try.prog 44 #[.slice a len cap] w fun e w' => ∃ v, e = .returned (.tuple #[v, .int .i64 c]) ∧ Got w' X len v ∧ Below w.heap.size w w') := by
  have hx0 : ∀ (w : World) (a : Option Addr), Byt w a len X → len = 1 + 4 * X 0 → X 0 < 256 := fun w a h he => by
    rcases h with h | ⟨_, _, _, _, h⟩
    · omega
    · exact (h 0 (by omega)).2
  by_cases hy : len = 1 + 4 * X 0 ∧ Rt (X 0) (deO X) (deR X)
  · refine ⟨0, fun w a cap hb hc hcap => (decode_yes w a len cap X hb hc hcap (hx0 w a hb hy.1) hy.1 hy.2).mono ?_, fun w a cap hb hc hcap => ?_⟩
    · rintro e w' ⟨a', c', rfl, hp, hb⟩
      exact ⟨_, rfl, .inl ⟨hy, _, _, rfl, hp⟩, hb⟩
    · have q := hx0 w a hb hy.1
      rcases hb with h | ⟨lb, off, rfl, hlb, hx⟩
      · omega
      refine (rdecode_go w lb off len cap X hlb hx q hy.1 hcap).mono ?_
      rintro e w' ⟨⟨_, a', c', rfl, hp⟩ | ⟨hn, _⟩, hb⟩
      · exact ⟨_, rfl, .inl ⟨hy, _, _, rfl, hp⟩, hb⟩
      · exact (hn hy.2).elim
  · refine ⟨3, fun w a cap hb hc hcap => ?_, fun w a cap hb hc hcap => ?_⟩
    · by_cases he : len = 1 + 4 * X 0
      · refine (decode_wrong w a len cap X hb hc hcap (hx0 w a hb he) he (fun q => hy ⟨he, q⟩)).mono ?_
        rintro e w' ⟨rfl, hb⟩
        exact ⟨_, rfl, .inr ⟨hy, rfl⟩, hb⟩
      · refine (decode_cut w a len cap X hb hc hcap he).mono ?_
        rintro e w' ⟨rfl, hb⟩
        exact ⟨_, rfl, .inr ⟨hy, rfl⟩, hb⟩
    · by_cases he : len = 1 + 4 * X 0
      · have q := hx0 w a hb he
        rcases hb with h | ⟨lb, off, rfl, hlb, hx⟩
        · omega
        refine (rdecode_go w lb off len cap X hlb hx q he hcap).mono ?_
        rintro e w' ⟨⟨hr, _⟩ | ⟨_, rfl⟩, hb⟩
        · exact (hy ⟨he, hr⟩).elim
        · exact ⟨_, rfl, .inr ⟨hy, rfl⟩, hb⟩
      · refine (rdecode_cut w a len cap X hb hc hcap he).mono ?_
        rintro e w' ⟨rfl, hb⟩
        exact ⟨_, rfl, .inr ⟨hy, rfl⟩, hb⟩
theorem same_got {w : World} {X : Nat → Nat} {len : Nat} {v v' : Value} (h : Got w X len v) (h' : Got w X len v') : Calls Try.prog 32 #[v, v'] w fun e w' => e = .returned (.bool true) ∧ Below w.heap.size w w' := by
  rcases h with ⟨h1, a, cap, rfl, hp⟩ | ⟨h1, rfl⟩
  · rcases h' with ⟨_, a', cap', rfl, hp'⟩ | ⟨h2, _⟩
    · obtain ⟨y, hz⟩ := h1.2
      exact psame hz.zero.1 hz.zero.2.1 hp hp'
    · exact (h2 h1).elim
  · rcases h' with ⟨h2, _⟩ | ⟨_, rfl⟩
    · exact (h1 h2).elim
    · exact rsame_nil w
end Go.Proofs.Ytnnpbbiiapipaaa

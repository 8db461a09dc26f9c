/- Contract of the program's test whether signs are those of a number. -/
import Derived.Test.YtgpkigofbncamaaDoorDec
import Derived.Test.YtgpkigofbncamaaDoorWide
namespace Go.Proofs.YtgpkigofbncamaaDoor
open Go.RowKit Go.Sort Go.Lib Go.Proofs

/-- The sign at a place of a text. -/
def bt (l : List UInt8) (k : Nat) : Int := ((l[k]?).getD 0).toNat
theorem bt_get {l : List UInt8} {k : Nat} (h : k < l.length) : bt l k = (l[k].toNat : Int) := by unfold bt; rw [List.getElem?_eq_getElem h]; rfl
theorem run_bt (l : List UInt8) (k : Nat) (h : k < l.length) (w : World) : (Instr.index 9 (.string ⟨l.toArray⟩) (.int .i64 (k : Int))).run Tryd.prog w = .ok (.int .u8 (bt l k)) w := by
  have hs : (⟨l.toArray⟩ : ByteArray).size = l.length := by simp [ByteArray.size]
  rw [run_index_string w 9 ⟨l.toArray⟩ .i64 k (by kernel_rfl), dif_pos (by omega), bt_get h]
  rfl
theorem run_bt0 (l : List UInt8) (h : 0 < l.length) (w : World) : (Instr.index 9 (.string ⟨l.toArray⟩) (.int .i64 0)).run Tryd.prog w = .ok (.int .u8 (bt l 0)) w := run_bt l 0 h w
/-- The first signs are digits. -/
def digs (l : List UInt8) (k : Nat) : Prop := ∀ j, j < k → 48 ≤ bt l j ∧ bt l j ≤ 57
theorem digs_all {l : List UInt8} : digs l l.length ↔ ∀ c ∈ l, isDg c := by
  constructor
  · intro h c hc
    obtain ⟨j, hj, rfl⟩ := List.mem_iff_getElem.1 hc
    have := h j hj
    rw [bt_get hj] at this
    unfold isDg; omega
  · intro h j hj
    have := h l[j] (List.getElem_mem hj)
    rw [bt_get hj]
    unfold isDg at this; omega
/-- Whether signs are those of a number, without noughts ahead. -/
def canB (l : List UInt8) : Bool := decide (l ≠ []) && (decide (l.length = 1 ∨ bt l 0 ≠ 48) && decide (∀ c ∈ l, isDg c))
theorem bt_zero {c : UInt8} {r : List UInt8} : bt (c :: r) 0 = (c.toNat : Int) := rfl
theorem canB_iff (l : List UInt8) : canB l = true ↔ canon l := by
  unfold canB canon
  rw [Bool.and_eq_true, Bool.and_eq_true, decide_eq_true_iff, decide_eq_true_iff, decide_eq_true_iff]
  constructor
  · rintro ⟨h1, h2, h3⟩
    refine ⟨h1, h3, ?_⟩
    rcases h2 with h | h
    · exact .inl h
    · refine .inr fun c r e e' => h ?_
      subst e; rw [bt_zero, e']; rfl
  · rintro ⟨h1, h3, h2⟩
    refine ⟨h1, ?_, h3⟩
    rcases h2 with h | h
    · exact .inl h
    · refine .inr fun e => ?_
      cases l with
      | nil => exact h1 rfl
      | cons c r =>
        refine h c r rfl (UInt8.toNat_inj.1 ?_)
        rw [bt_zero] at e
        show c.toNat = 48
        omega

set_option maxHeartbeats 1000000 in
theorem isnum_any (l : List UInt8) (w : World) (hl : l.length ≤ 281474976710656) :
    Calls Tryd.prog 20 #[.string ⟨l.toArray⟩] w fun e w' => e = .returned (.bool (canB l)) ∧ w' = w := by
  have hsz : (⟨l.toArray⟩ : ByteArray).size = l.length := by simp [ByteArray.size]
  by_cases h0 : l = []
  · subst h0
    go_enter Tryd.func20, Tryd.ntmps20
    go_wp2
    go_ret
    exact ⟨rfl, rfl⟩
  · have hp : 0 < l.length := List.length_pos_iff.2 h0
    have R0 := run_bt0 l hp
    have he : l.isEmpty = false := by cases l with
      | nil => exact absurd rfl h0
      | cons c r => rfl
    by_cases h1 : bt l 0 = 48 ∧ 1 < l.length
    · have HE : Hid (canB l = false) := by
        unfold Hid canB
        rw [decide_eq_false (p := l.length = 1 ∨ bt l 0 ≠ 48) (by omega)]; simp
      obtain ⟨h2, h3⟩ := h1
      go_enter Tryd.func20, Tryd.ntmps20
      go_wp2
      go_ret
      exact ⟨by rw [HE.out]; rfl, rfl⟩
    · have HB : Hid (canB l = decide (∀ c ∈ l, isDg c)) := by
        unfold Hid canB
        rw [decide_eq_true (p := l ≠ []) h0, decide_eq_true (p := l.length = 1 ∨ bt l 0 ≠ 48) (by omega)]; simp
      rcases Classical.em (bt l 0 = 48) with h3 | h3
      · have h4 : ¬ 1 < l.length := fun h => h1 ⟨h3, h⟩
        clear h1
        go_enter Tryd.func20, Tryd.ntmps20
        go_wp2
        go_loopw [18] (fun i wr => ∃ k : Nat, k ≤ l.length ∧ i = .int .i64 k ∧ digs l k ∧ wr = w) (fun i _ => l.length - (intOf i).toNat)
        case atStart => exact ⟨0, by omega, rfl, fun j hj => absurd hj (by omega), rfl⟩
        case round =>
          obtain ⟨k, hk, rfl, hd, rfl⟩ := hrel
          clear R0
          by_cases hlt : k < l.length
          · have RK := run_bt l k hlt
            by_cases c1 : bt l k < 48
            · have HX : Hid (decide (∀ c ∈ l, isDg c) = false) := decide_eq_false fun h => by have := digs_all.2 h k hlt; omega
              go_wp2
              go_ret
              exact ⟨by rw [HB.out, HX.out]; rfl, rfl⟩
            · by_cases c2 : 57 < bt l k
              · have HX : Hid (decide (∀ c ∈ l, isDg c) = false) := decide_eq_false fun h => by have := digs_all.2 h k hlt; omega
                go_wp2
                go_ret
                exact ⟨by rw [HB.out, HX.out]; rfl, rfl⟩
              · go_wp2
                go_roundw
                case rel =>
                  refine ⟨k + 1, by omega, by go_num, fun j hj => ?_, trivial⟩
                  rcases Nat.lt_succ_iff_lt_or_eq.1 hj with h | h
                  · exact hd j h
                  · subst h; omega
                case measure => simp [intOf]; omega
          · have e : k = l.length := by omega
            subst e
            have HX : Hid (decide (∀ c ∈ l, isDg c) = true) := decide_eq_true (digs_all.1 hd)
            go_wp2
            go_ret
            exact ⟨by rw [HB.out, HX.out]; rfl, rfl⟩
      · clear h1
        go_enter Tryd.func20, Tryd.ntmps20
        go_wp2
        go_loopw [18] (fun i wr => ∃ k : Nat, k ≤ l.length ∧ i = .int .i64 k ∧ digs l k ∧ wr = w) (fun i _ => l.length - (intOf i).toNat)
        case atStart => exact ⟨0, by omega, rfl, fun j hj => absurd hj (by omega), rfl⟩
        case round =>
          obtain ⟨k, hk, rfl, hd, rfl⟩ := hrel
          clear R0
          by_cases hlt : k < l.length
          · have RK := run_bt l k hlt
            by_cases c1 : bt l k < 48
            · have HX : Hid (decide (∀ c ∈ l, isDg c) = false) := decide_eq_false fun h => by have := digs_all.2 h k hlt; omega
              go_wp2
              go_ret
              exact ⟨by rw [HB.out, HX.out]; rfl, rfl⟩
            · by_cases c2 : 57 < bt l k
              · have HX : Hid (decide (∀ c ∈ l, isDg c) = false) := decide_eq_false fun h => by have := digs_all.2 h k hlt; omega
                go_wp2
                go_ret
                exact ⟨by rw [HB.out, HX.out]; rfl, rfl⟩
              · go_wp2
                go_roundw
                case rel =>
                  refine ⟨k + 1, by omega, by go_num, fun j hj => ?_, trivial⟩
                  rcases Nat.lt_succ_iff_lt_or_eq.1 hj with h | h
                  · exact hd j h
                  · subst h; omega
                case measure => simp [intOf]; omega
          · have e : k = l.length := by omega
            subst e
            have HX : Hid (decide (∀ c ∈ l, isDg c) = true) := decide_eq_true (digs_all.1 hd)
            go_wp2
            go_ret
            exact ⟨by rw [HB.out, HX.out]; rfl, rfl⟩
end Go.Proofs.YtgpkigofbncamaaDoor

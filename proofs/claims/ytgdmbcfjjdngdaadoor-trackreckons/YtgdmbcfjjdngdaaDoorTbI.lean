/- Where a number stands: cmp.Compare, find's closure, BinarySearchFunc. -/
import Derived.Test.YtgdmbcfjjdngdaaDoorPl
import Derived.Deep.LoopGhost
set_option linter.unusedSimpArgs false
set_option linter.unusedVariables false
namespace Go.Proofs.YtgdmbcfjjdngdaaDoor.TI
open Go.RowKit Go.Sort Go.Shelf
abbrev vV (n : Int) : Value := .int .i64 n
abbrev rL (x : En) : List Value := [.int .u32 x.1, vV x.2.1]
attribute [local go_sem] Oper.semAt_some wide_fn
attribute [local simp] wide_fn

def c2 (x y : Int) : Int := if x < y then -1 else if y < x then 1 else 0
theorem nan_any (x : Int) (w : World) : Calls Tryd.prog 96 #[.int .u32 x] w fun e w' => e = .returned (.bool false) ∧ w' = w := by
  go_enter Tryd.func96, Tryd.ntmps96
  go_wp2
  go_ret
  exact ⟨rfl, rfl⟩
theorem compare_any (x y : Int) (w : World) : Calls Tryd.prog 87 #[.int .u32 x, .int .u32 y] w fun e w' => e = .returned (.int .i64 (c2 x y)) ∧ w' = w := by
  have N := fun x => hid0 (nan_any x w)
  by_cases h1 : x < y
  · have e : c2 x y = -1 := by simp [c2, h1]
    rw [e]
    clear e
    go_enter Tryd.func87, Tryd.ntmps87
    go_wp2_with fail
    refine (N x).out.mono ?_
    rintro e w1 ⟨rfl, hw⟩
    cases hw
    go_wp2_with fail
    refine (N y).out.mono ?_
    rintro e w1 ⟨rfl, hw⟩
    cases hw
    go_wp2
    go_ret
    exact ⟨rfl, rfl⟩
  by_cases h2 : y < x
  · have e : c2 x y = 1 := by simp [c2, h1, h2]
    rw [e]
    clear e
    go_enter Tryd.func87, Tryd.ntmps87
    go_wp2_with fail
    refine (N x).out.mono ?_
    rintro e w1 ⟨rfl, hw⟩
    cases hw
    go_wp2_with fail
    refine (N y).out.mono ?_
    rintro e w1 ⟨rfl, hw⟩
    cases hw
    go_wp2
    go_ret
    exact ⟨rfl, rfl⟩
  have e : c2 x y = 0 := by simp [c2, h1, h2]
  rw [e]
  clear e
  go_enter Tryd.func87, Tryd.ntmps87
  go_wp2_with fail
  refine (N x).out.mono ?_
  rintro e w1 ⟨rfl, hw⟩
  cases hw
  go_wp2_with fail
  refine (N y).out.mono ?_
  rintro e w1 ⟨rfl, hw⟩
  cases hw
  go_wp2
  go_ret
  exact ⟨rfl, rfl⟩
theorem f70_any (b : Nat) (x : En) (id : Int) (w : World) (h : Bk w b 123 (rL x)) : Calls Tryd.prog 86 #[pT b, .int .u32 id] w fun e w' => e = .returned (.int .i64 (c2 x.1 id)) ∧ w' = w := by
  have C := hid0 (compare_any x.1 id w)
  have c0 := h.at 0
  simp only [List.getElem?_cons_zero] at c0
  clear h
  go_enter Tryd.func86, Tryd.ntmps86
  go_wp2_with fail
  refine C.out.mono ?_
  rintro e w1 ⟨rfl, hw⟩
  cases hw
  go_wp2
  go_ret
  exact ⟨rfl, rfl⟩

/-- The rows of L stand at the head of block g, which has room for cp. -/
def RowG (w : World) (g cp : Nat) (L : List En) : Prop := ∃ rest, Bk w g 124 (pts L ++ rest) ∧ L.length + rest.length = cp ∧ cp ≤ maxLen
/-- Each entry's row. -/
def Ents (w : World) (L : List En) : Prop := ∀ x ∈ L, Bk w x.2.2 123 (rL x)
theorem Ents.gr {w w' : World} {L : List En} (h : Ents w L) (g : Gr w w') : Ents w' L := fun x hx => (h x hx).gr g
theorem RowG.cell {w : World} {g cp : Nat} {L : List En} (h : RowG w g cp L) {i : Nat} {x : En} (hx : L[i]? = some x) : w.cell? ⟨g, i, none⟩ = some (pT x.2.2) := by
  obtain ⟨r, h, _⟩ := h
  have hi := (List.getElem?_eq_some_iff.1 hx).1
  rw [h.at, List.getElem?_append_left (by rw [pts_len]; exact hi)]
  simp [pts, hx]
theorem RowG.lt {w : World} {g cp : Nat} {L : List En} (h : RowG w g cp L) : g < w.heap.size := by
  obtain ⟨r, h, _⟩ := h
  exact h.lt
theorem RowG.same {w w' : World} {g cp : Nat} {L : List En} (h : RowG w g cp L) (e : w'.heap[g]? = w.heap[g]?) : RowG w' g cp L := by
  obtain ⟨r, h, k⟩ := h
  exact ⟨r, h.same e, k⟩
theorem RowG.gr {w w' : World} {g cp : Nat} {L : List En} (h : RowG w g cp L) (k : Gr w w') : RowG w' g cp L := h.same (k.below.block _ h.lt)
theorem RowG.frozen {w : World} {g cp : Nat} {L : List En} (h : RowG w g cp L) (i : Nat) : w.frozen? ⟨g, i, none⟩ = false := by
  obtain ⟨r, h, k⟩ := h
  exact h.frozen i
theorem RowG.le {w : World} {g cp : Nat} {L : List En} (h : RowG w g cp L) : L.length ≤ cp ∧ cp ≤ maxLen := by
  obtain ⟨r, h, k, m⟩ := h
  exact ⟨by omega, m⟩
theorem cut_of {L : List En} {id : Int} {i : Nat} (hi : i ≤ L.length) (h1 : ∀ t x, L[t]? = some x → t < i → x.1 < id) (h2 : ∀ t x, L[t]? = some x → i ≤ t → id ≤ x.1) : Cut L id i :=
  ⟨hi, fun t x hx => ⟨fun h => Nat.lt_of_not_le fun hle => by have := h2 t x hx hle; omega, fun h => h1 t x hx h⟩⟩
def SearchR (L : List En) (id : Int) (w : World) (e : Ending) (w' : World) : Prop := ∃ i, Cut L id i ∧ e = .returned (.tuple #[.int .i64 (i : Int), .bool (there L id i)]) ∧ w' = w
theorem search_nil (id : Int) (w : World) : Calls Tryd.prog 85 #[.slice none 0 0, .int .u32 id, .func (.func 86) #[] #[]] w (SearchR [] id w) := by
  go_enter Tryd.func85, Tryd.ntmps85
  go_wp2
  go_loopw [9, 10] (fun v v' wr => wr = w ∧ v = .int .i64 0 ∧ v' = .int .i64 0) (fun _ _ _ => 0)
  case atStart => exact ⟨rfl, rfl, rfl⟩
  case round =>
    obtain ⟨rfl, rfl, rfl⟩ := hrel
    go_wp2
    go_ret2
    exact ⟨0, ⟨Nat.le_refl _, fun t x hx => by simp at hx⟩, rfl, rfl⟩
set_option maxHeartbeats 1000000 in
theorem search_any (g cp : Nat) (id : Int) (L : List En) (w : World) (hR : RowG w g cp L) (hE : Ents w L) (hA : Asc L) (hl : L.length ≤ 65536) :
    Calls Tryd.prog 85 #[.slice (some ⟨g, 0, none⟩) L.length cp, .int .u32 id, .func (.func 86) #[] #[]] w (SearchR L id w) := by
  have R := hid0 hR
  have E := hid0 hE
  have A := hid0 hA
  clear hR hE hA
  generalize hn : L.length = n at *
  have HN : Hid (L.length = n) := hn
  clear hn
  go_enter Tryd.func85, Tryd.ntmps85
  go_wp2
  go_loopg [9, 10] n (fun kx s9 s10 wr => ∃ lo hi : Nat, s9 = .int .i64 lo ∧ s10 = .int .i64 hi ∧ lo ≤ hi ∧ hi ≤ n ∧ hi - lo ≤ kx ∧ wr = w ∧ Hid ((∀ t x, L[t]? = some x → t < lo → x.1 < id) ∧ (∀ t x, L[t]? = some x → hi ≤ t → id ≤ x.1)))
  case atStart => exact ⟨0, n, rfl, rfl, Nat.zero_le _, Nat.le_refl _, by omega, rfl, ⟨fun t x _ h => absurd h (Nat.not_lt_zero _), fun t x hx h => by have := (List.getElem?_eq_some_iff.1 hx).1; have := HN.out; omega⟩⟩
  case round =>
    obtain ⟨lo, hi, rfl, rfl, hlh, hin, hg, rfl, I⟩ := hrel
    by_cases hlt : lo < hi
    · have hmid : (lo + hi) / 2 < n := by omega
      obtain ⟨x, hx⟩ : ∃ x, L[(lo + hi) / 2]? = some x := ⟨_, List.getElem?_eq_getElem (by rw [HN.out]; exact hmid)⟩
      have cm := R.out.cell hx
      have CM := hid0 (f70_any x.2.2 x id wr (E.out x (List.mem_of_getElem? hx)))
      have HX := hid0 hx
      clear hx
      by_cases hyx : x.1 < id
      · rw [show c2 x.1 id = -1 by simp [c2, hyx]] at CM
        go_wp2_with fail
        refine CM.out.mono ?_
        rintro e w1 ⟨rfl, hw⟩
        cases hw
        go_wp2
        go_roundg (hi - ((lo + hi) / 2 + 1))
        case measure => omega
        case rel =>
          have I2 : Hid ((∀ t x, L[t]? = some x → t < (lo + hi) / 2 + 1 → x.1 < id) ∧ (∀ t x, L[t]? = some x → hi ≤ t → id ≤ x.1)) := by
            refine ⟨fun t y hy ht => ?_, I.out.2⟩
            rcases Nat.lt_or_ge t ((lo + hi) / 2) with h | h
            · have := A.out.lt hy HX.out h; omega
            · obtain rfl : t = (lo + hi) / 2 := by omega
              have := HX.out
              rw [hy] at this
              rw [Option.some.inj this]
              exact hyx
          exact ⟨(lo + hi) / 2 + 1, hi, by rw [show ((lo : Int) + (hi : Int)) / 2 + 1 = (((lo + hi) / 2 + 1 : Nat) : Int) by omega], rfl, by omega, hin, Nat.le_refl _, rfl, I2⟩
      · have hc : ¬ c2 x.1 id < 0 := by unfold c2; rw [if_neg hyx]; split <;> omega
        generalize c2 x.1 id = c at *
        go_wp2_with fail
        refine CM.out.mono ?_
        rintro e w1 ⟨rfl, hw⟩
        cases hw
        go_wp2
        go_roundg ((lo + hi) / 2 - lo)
        case measure => omega
        case rel =>
          have I2 : Hid ((∀ t x, L[t]? = some x → t < lo → x.1 < id) ∧ (∀ t x, L[t]? = some x → (lo + hi) / 2 ≤ t → id ≤ x.1)) := by
            refine ⟨I.out.1, fun t y hy ht => ?_⟩
            rcases Nat.lt_or_ge ((lo + hi) / 2) t with h | h
            · have := A.out.lt HX.out hy h; omega
            · obtain rfl : t = (lo + hi) / 2 := by omega
              have := HX.out
              rw [hy] at this
              rw [Option.some.inj this]
              omega
          exact ⟨lo, (lo + hi) / 2, rfl, by rw [show ((lo : Int) + (hi : Int)) / 2 = (((lo + hi) / 2 : Nat) : Int) by omega], by omega, by omega, Nat.le_refl _, rfl, I2⟩
    · obtain rfl : hi = lo := by omega
      have CT : Hid (Cut L id hi) := cut_of (by rw [HN.out]; exact hin) I.out.1 I.out.2
      by_cases hn : hi < n
      · obtain ⟨x, hx⟩ : ∃ x, L[hi]? = some x := ⟨_, List.getElem?_eq_getElem (by rw [HN.out]; exact hn)⟩
        have cm := R.out.cell hx
        have CM := hid0 (f70_any x.2.2 x id wr (E.out x (List.mem_of_getElem? hx)))
        have hge := I.out.2 hi x hx (Nat.le_refl _)
        by_cases hyx : x.1 = id
        · have TH : Hid (there L id hi = true) := by simp [Hid, there, hx, hyx]
          rw [show c2 x.1 id = 0 by simp [c2, hyx]] at CM
          clear hx I
          go_wp2_with fail
          refine CM.out.mono ?_
          rintro e w1 ⟨rfl, hw⟩
          cases hw
          go_wp2
          go_ret2
          exact ⟨hi, CT.out, by rw [TH.out]; rfl, rfl⟩
        · have TH : Hid (there L id hi = false) := by simp [Hid, there, hx, hyx]
          rw [show c2 x.1 id = 1 by unfold c2; rw [if_neg (by omega), if_pos (by omega)]] at CM
          clear hx I
          go_wp2_with fail
          refine CM.out.mono ?_
          rintro e w1 ⟨rfl, hw⟩
          cases hw
          go_wp2
          go_ret2
          exact ⟨hi, CT.out, by rw [TH.out]; rfl, rfl⟩
      · have TH : Hid (there L id hi = false) := by simp [Hid, there, List.getElem?_eq_none (show L.length ≤ hi by rw [HN.out]; omega)]
        go_wp2
        go_ret2
        exact ⟨hi, CT.out, by rw [TH.out]; rfl, rfl⟩
end Go.Proofs.YtgdmbcfjjdngdaaDoor.TI

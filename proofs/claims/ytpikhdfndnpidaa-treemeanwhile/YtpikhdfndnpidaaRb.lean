/- The reference's place: where a number stands, or would stand. -/
import Derived.Test.YtpikhdfndnpidaaRa
set_option linter.unusedSimpArgs false
set_option linter.unusedVariables false
namespace Go.Proofs.Ytpikhdfndnpidaa
open Go.RowKit Go.Sort Go.Shelf

theorem add_zero (g k : Nat) : (⟨g, 0, none⟩ : Addr).add k = ⟨g, k, none⟩ := by unfold Addr.add; split <;> simp_all
theorem RefIs.id {w : World} {base R : Nat} {l : List E} (h : RefIs w base R l) : ∃ ao cap, w.cell? ⟨R, 0, none⟩ = some (.slice ao l.length cap) ∧ ∀ k x, l[k]? = some x → ∃ g, ao = some ⟨g, 0, none⟩ ∧ w.cell? ⟨g, k, none⟩ = some (.int .u32 x.1) := by
  obtain ⟨_, iv, bw, k, h1, h2⟩ := h
  rcases h1.2 with ⟨rfl, h0⟩ | ⟨g, cap, cur, rfl, _⟩
  · refine ⟨none, 0, by rw [h0]; exact k.at 0, fun k x hx => ?_⟩
    have := (List.getElem?_eq_some_iff.1 hx).1
    omega
  · refine ⟨_, cap, k.at 0, fun k x hx => ⟨g, rfl, ?_⟩⟩
    have := h1.cells (g := g) rfl k (.int .u32 x.1) (by rw [List.getElem?_map, hx]; rfl)
    rwa [add_zero] at this
theorem RefIs.box {w : World} {base R : Nat} {l : List E} (h : RefIs w base R l) : ∃ ao cap, w.cell? ⟨R, 1, none⟩ = some (.slice ao l.length cap) ∧ ∀ k x, l[k]? = some x → ∃ g, ao = some ⟨g, 0, none⟩ ∧ w.cell? ⟨g, k * 4, none⟩ = some (.int .i32 x.2.1) ∧ w.cell? ⟨g, k * 4 + 1, none⟩ = some (.int .i32 x.2.2.1) ∧ w.cell? ⟨g, k * 4 + 2, none⟩ = some (.int .i32 x.2.2.2.1) ∧ w.cell? ⟨g, k * 4 + 3, none⟩ = some (.int .i32 x.2.2.2.2) := by
  obtain ⟨_, iv, bw, k, h1, h2⟩ := h
  rcases h2.2 with ⟨rfl, h0⟩ | ⟨g, cap, cur, rfl, _⟩
  · refine ⟨none, 0, by rw [h0]; exact k.at 1, fun k x hx => ?_⟩
    have := (List.getElem?_eq_some_iff.1 hx).1
    omega
  · refine ⟨_, cap, k.at 1, fun k x hx => ⟨g, rfl, ?_⟩⟩
    obtain ⟨b0, b1, b2, b3⟩ := boxC_at l k x hx
    have c0 := h2.cells (g := g) rfl _ _ b0
    have c1 := h2.cells (g := g) rfl _ _ b1
    have c2 := h2.cells (g := g) rfl _ _ b2
    have c3 := h2.cells (g := g) rfl _ _ b3
    rw [add_zero] at c0 c1 c2 c3
    exact ⟨c0, c1, c2, c3⟩
theorem has_at {l : List E} (s : PT.Srt l) {k : Int} {m : Nat} (h1 : ∀ j x, l[j]? = some x → j < m → x.1 < k) (h2 : ∀ j x, l[j]? = some x → m ≤ j → ¬ x.1 < k) : hasI k l = true ↔ ∃ x, l[m]? = some x ∧ x.1 = k := by
  rw [hasI_iff]
  constructor
  · rintro ⟨q, hq⟩
    obtain ⟨j, hj⟩ := List.mem_iff_getElem?.1 hq
    rcases Nat.lt_trichotomy j m with c | c | c
    · have := h1 j _ hj c; simp only at this; omega
    · subst c; exact ⟨_, hj, rfl⟩
    · have hm : m < l.length := by have := (List.getElem?_eq_some_iff.1 hj).1; omega
      have hx := List.getElem?_eq_getElem hm
      have a := srt_lt s hx hj c
      have b := h2 m _ hx (Nat.le_refl _)
      simp only at a
      omega
  · rintro ⟨x, hx, rfl⟩
    exact ⟨x.2, List.mem_of_getElem? hx⟩
set_option maxRecDepth 20000 in
set_option maxHeartbeats 4000000 in
theorem place_any (base R : Nat) (l : List E) (k : Int) (w : World) (h : RefIs w base R l) (s : PT.Srt l) (hl : l.length ≤ 1000000) : Calls Try.prog 35 #[.pointer (some ⟨R, 0, none⟩), .int .u32 k] w fun e w' => e = .returned (.tuple #[.int .i64 (posL k l : Nat), .bool (hasI k l)]) ∧ Gr w w' := by
  obtain ⟨ao, cap, c0, hc⟩ := h.id
  have HC := hid0 hc
  have HS := hid0 s
  obtain ⟨N, hN⟩ : ∃ N, N = l.length := ⟨_, rfl⟩
  have HN := hid0 hN
  rw [← hN] at c0
  have hN6 : N ≤ 1000000 := by omega
  clear hc s hN hl h
  go_enter Try.func35, Try.ntmps35
  go_wp2_with fail
  go_loopg [6, 7] N (fun gk lo hi wr => ∃ a b : Nat, lo = .int .i64 (a : Int) ∧ hi = .int .i64 (b : Int) ∧ a ≤ b ∧ b ≤ N ∧ gk = b - a ∧ Hid ((∀ j x, l[j]? = some x → j < a → x.1 < k) ∧ (∀ j x, l[j]? = some x → b ≤ j → ¬ x.1 < k)) ∧ wr = w)
  case atStart => exact ⟨0, N, rfl, rfl, Nat.zero_le _, Nat.le_refl _, rfl, ⟨fun j x _ h => by omega, fun j x hx h => by have := (List.getElem?_eq_some_iff.1 hx).1; have := HN.out; omega⟩, rfl⟩
  case round =>
    obtain ⟨a, b, rfl, rfl, hab, hbN, rfl, HI, rfl⟩ := hrel
    by_cases c : a < b
    · have ci : (a : Int) < (b : Int) := by omega
      obtain ⟨m, hm⟩ : ∃ m, m = (a + b) / 2 := ⟨_, rfl⟩
      have hw : wrap64 ((a : Int) + (b : Int)) = ((a + b : Nat) : Int) := by unfold wrap64; omega
      have hmN : m < N := by omega
      obtain ⟨x, hx⟩ : ∃ x, l[m]? = some x := ⟨l[m]'(by have := HN.out; omega), List.getElem?_eq_getElem _⟩
      obtain ⟨g, rfl, cx⟩ := HC.out m x hx
      have hw1 : wrap64 ((m : Int) + 1) = ((m + 1 : Nat) : Int) := by unfold wrap64; omega
      have HX := hid0 hx
      have HM := hid0 hm
      have hq : ((a : Int) + (b : Int)) / 2 = (m : Int) := by omega
      clear hx hm
      by_cases cx2 : x.1 < k
      · have HI2 : Hid ((∀ j x, l[j]? = some x → j < m + 1 → x.1 < k) ∧ (∀ j x, l[j]? = some x → b ≤ j → ¬ x.1 < k)) := ⟨fun j y hy hj => by
          rcases Nat.lt_or_ge j m with c | c
          · have := srt_lt HS.out hy HX.out c; omega
          · have : j = m := by omega
            subst this
            rw [HX.out] at hy
            cases hy
            exact cx2, HI.out.2⟩
        go_wp2
        go_roundg (b - (m + 1))
        case measure => have := HM.out; omega
        case rel => exact ⟨m + 1, b, rfl, rfl, by have := HM.out; omega, hbN, rfl, HI2, rfl⟩
      · have HI2 : Hid ((∀ j x, l[j]? = some x → j < a → x.1 < k) ∧ (∀ j x, l[j]? = some x → m ≤ j → ¬ x.1 < k)) := ⟨HI.out.1, fun j y hy hj => by
          rcases Nat.lt_or_ge m j with c | c
          · have := srt_lt HS.out HX.out hy c; omega
          · have : j = m := by omega
            subst this
            rw [HX.out] at hy
            cases hy
            exact cx2⟩
        go_wp2
        go_roundg (m - a)
        case measure => have := HM.out; omega
        case rel => exact ⟨a, m, rfl, rfl, by have := HM.out; omega, by omega, rfl, HI2, rfl⟩
    · have eab : a = b := by omega
      subst eab
      have ci : ¬ (a : Int) < (a : Int) := by omega
      have PE : Hid (posL k l = a) := posL_eq (by have := HN.out; omega) HI.out.1 HI.out.2
      have HE := hid0 (has_at HS.out HI.out.1 HI.out.2)
      have c0' : ∀ n, (wr.drewN n).cell? ⟨R, 0, none⟩ = some (.slice ao N cap) := fun n => below_cell c0 ((Gr.refl wr).drewN n).below
      by_cases cn : a < N
      · have cni : (a : Int) < (N : Int) := by omega
        have cnb : decide ((a : Int) < (N : Int)) = true := decide_eq_true cni
        obtain ⟨x, hx⟩ : ∃ x, l[a]? = some x := ⟨l[a]'(by have := HN.out; omega), List.getElem?_eq_getElem _⟩
        obtain ⟨g, rfl, cx⟩ := HC.out a x hx
        have cx' : ∀ n, (wr.drewN n).cell? ⟨g, a, none⟩ = some (.int .u32 x.1) := fun n => below_cell cx ((Gr.refl wr).drewN n).below
        have HB : Hid (hasI k l = (x.1 == k)) := by
          unfold Hid
          rw [Bool.eq_iff_iff, HE.out]
          constructor
          · rintro ⟨y, hy, e⟩
            rw [hx] at hy
            cases hy
            simp [e]
          · intro e
            exact ⟨x, hx, by simpa using e⟩
        clear hx c0 cx
        go_wp2_with fail
        go_quiet (fail)
        go_wp2
        refine bodyPost_ret (v := .tuple #[.int .i64 (a : Int), .bool (x.1 == k)]) (by simp [results, Try.results35, go_sem]) rfl ⟨by rw [PE.out, HB.out], (Gr.refl wr).drewN nq⟩
      · have cni : ¬ (a : Int) < (N : Int) := by omega
        have cnb : decide ((a : Int) < (N : Int)) = false := decide_eq_false cni
        have HB : Hid (hasI k l = false) := by
          unfold Hid
          cases hh : hasI k l with
          | false => rfl
          | true =>
            obtain ⟨x, hx, _⟩ := HE.out.1 hh
            have := (List.getElem?_eq_some_iff.1 hx).1
            have := HN.out
            omega
        clear c0
        go_wp2_with fail
        go_quiet (fail)
        go_wp2
        refine bodyPost_ret (v := .tuple #[.int .i64 (a : Int), .bool false]) (by simp [results, Try.results35, go_sem]) rfl ⟨by rw [PE.out, HB.out], (Gr.refl wr).drewN nq⟩
end Go.Proofs.Ytpikhdfndnpidaa

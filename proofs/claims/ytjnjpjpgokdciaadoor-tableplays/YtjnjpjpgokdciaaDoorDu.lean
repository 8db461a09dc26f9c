/- What each call answers, in one word for the table and for the document's own. -/
import Derived.Test.YtjnjpjpgokdciaaDoorRq
set_option linter.unusedSimpArgs false
set_option linter.unusedVariables false
namespace Go.Proofs.YtjnjpjpgokdciaaDoor
open Go.RowKit Go.Sort Go.Shelf

def PutD (L : List En) (room : Nat) (id n was er : Int) (L' : List En) : Prop := ∃ i, Cut L id i ∧
  ((there L id i = true ∧ was = valAt L i ∧ er = 0 ∧ ∃ nb, L' = L.set i (id, n, nb)) ∨ (there L id i = false ∧ room ≤ L.length ∧ was = 0 ∧ er = 5 ∧ L' = L) ∨ (there L id i = false ∧ L.length < room ∧ was = 0 ∧ er = 0 ∧ ∃ nb, L' = ins L i (id, n, nb)))
def GetD (L : List En) (id was : Int) (ok : Bool) : Prop := ∃ i, Cut L id i ∧ ((there L id i = true ∧ was = valAt L i ∧ ok = true) ∨ (there L id i = false ∧ was = 0 ∧ ok = false))
def DelD (L : List En) (id was : Int) (ok : Bool) (L' : List En) : Prop := ∃ i, Cut L id i ∧ ((there L id i = true ∧ was = valAt L i ∧ ok = true ∧ L' = L.eraseIdx i) ∨ (there L id i = false ∧ was = 0 ∧ ok = false ∧ L' = L))
def NextD (L : List En) (id : Int) (all : Bool) (num was : Int) (ok : Bool) : Prop :=
  (∃ (i : Nat) (x : En), L[i]? = some x ∧ (all = true ∨ id < x.1) ∧ (∀ (t : Nat) (y : En), L[t]? = some y → t < i → all = false ∧ ¬ id < y.1) ∧ num = x.1 ∧ was = x.2.1 ∧ ok = true) ∨
   ((∀ (t : Nat) (y : En), L[t]? = some y → all = false ∧ ¬ id < y.1) ∧ num = 0 ∧ was = 0 ∧ ok = false)
theorem key_of {L : List En} {id : Int} {c : Nat} (hA : Asc L) (hc : Cut L id c) : ∀ (k : Nat) (x : En), L[k]? = some x → ((if there L id c then c + 1 else c) ≤ k ↔ id < x.1) := fun k x hk => by
  have h1 := hc.is k x hk
  cases hth : there L id c with
  | true =>
    obtain ⟨y, hy, ey⟩ := there_yes hth
    simp only [if_true]
    constructor
    · intro h; have := hA.lt hy hk (by omega); omega
    · intro h
      rcases Nat.lt_trichotomy k c with h2 | h2 | h2
      · have := h1.2 h2; omega
      · subst h2; rw [hy] at hk; cases hk; omega
      · omega
  | false =>
    simp only [Bool.false_eq_true, if_false]
    constructor
    · intro h
      have h2 : ¬ x.1 < id := fun h3 => by have := h1.1 h3; omega
      have h3 : x.1 ≠ id := fun e => by
        have := (there_mem hA hc).2 ⟨x, List.mem_of_getElem? hk, e⟩
        rw [hth] at this; cases this
      omega
    · intro h; exact Nat.le_of_not_lt fun h2 => by have := h1.2 h2; omega
section
variable {B : Nat} {w : World} {t r room : Nat} {v vr : Value} {L : List En}
theorem put_u (h : TabIs B w t room v L) (hB : B ≤ w.heap.size) (id n : Int) : Calls Tryd.prog 15 #[pT t, .int .u32 id, vV n] w fun e w' =>
    ∃ was er v' L', e = .returned (.tuple #[vV was, .int .i64 er]) ∧ TabIs B w' t room v' L' ∧ Chg (tP t v) w w' ∧ NewRow w v v' ∧ PutD L room id n was er L' := by
  refine (put_any h hB id n).mono ?_
  rintro e w' ⟨i, hc, hC, ⟨hth, rfl, nb, _, hT⟩ | ⟨hth, hf, rfl, hT⟩ | ⟨hth, hlt, rfl, nb, v', _, hT, hN⟩⟩
  · exact ⟨_, _, v, _, rfl, hT, hC, fun g e => .inl e, i, hc, .inl ⟨hth, rfl, rfl, nb, rfl⟩⟩
  · exact ⟨_, _, v, _, rfl, hT, hC, fun g e => .inl e, i, hc, .inr (.inl ⟨hth, by omega, rfl, rfl, rfl⟩)⟩
  · exact ⟨_, _, v', _, rfl, hT, hC, hN, i, hc, .inr (.inr ⟨hth, hlt, rfl, rfl, nb, rfl⟩)⟩
theorem rput_u {was er : Int} {L' : List En} (h : RTab B w r room vr L) (hB : B ≤ w.heap.size) (hA : Asc L) (hl : L.length ≤ 65536) (id n : Int) (hD : PutD L room id n was er L') : Calls Tryd.prog 40 #[pT r, .int .u32 id, .int .i64 n] w fun e w' =>
    e = .returned (.tuple #[.int .i64 was, .int .i64 er]) ∧ ∃ v', RTab B w' r room v' L' ∧ Chg (tP r vr) w w' ∧ NewRow w vr v' := by
  refine (rput_any h hB hA hl id n).mono ?_
  obtain ⟨j, hj, hD⟩ := hD
  rintro e w' ⟨i, hc, hC, hcase⟩
  obtain rfl := hc.uniq hj
  rcases hD with ⟨hth, rfl, rfl, nb, rfl⟩ | ⟨hth, hf, rfl, rfl, rfl⟩ | ⟨hth, hlt, rfl, rfl, nb, rfl⟩
  · rcases hcase with ⟨_, rfl, hT⟩ | ⟨h2, _⟩ | ⟨h2, _⟩
    · exact ⟨rfl, vr, hT nb, hC, fun g e => .inl e⟩
    · rw [hth] at h2; cases h2
    · rw [hth] at h2; cases h2
  · rcases hcase with ⟨h2, _⟩ | ⟨_, _, rfl, hT⟩ | ⟨_, h2, _⟩
    · rw [hth] at h2; cases h2
    · exact ⟨rfl, vr, hT, hC, fun g e => .inl e⟩
    · omega
  · rcases hcase with ⟨h2, _⟩ | ⟨_, h2, _⟩ | ⟨_, _, rfl, v', hT, hN⟩
    · rw [hth] at h2; cases h2
    · omega
    · exact ⟨rfl, v', hT nb, hC, hN⟩
theorem get_u (h : TabIs B w t room v L) (id : Int) : Calls Tryd.prog 35 #[pT t, .int .u32 id] w fun e w' => ∃ was ok, e = .returned (.tuple #[vV was, .bool ok]) ∧ Gr w w' ∧ GetD L id was ok := by
  refine (get_any h id).mono ?_
  rintro e w' ⟨i, hc, ⟨hth, rfl⟩ | ⟨hth, rfl⟩, hG⟩
  · exact ⟨_, _, rfl, hG, i, hc, .inl ⟨hth, rfl, rfl⟩⟩
  · exact ⟨_, _, rfl, hG, i, hc, .inr ⟨hth, rfl, rfl⟩⟩
theorem rget_u {was : Int} {ok : Bool} (h : RTab B w r room vr L) (hA : Asc L) (hl : L.length ≤ 65536) (id : Int) (hD : GetD L id was ok) : Calls Tryd.prog 41 #[pT r, .int .u32 id] w fun e w' => e = .returned (.tuple #[.int .i64 was, .bool ok]) ∧ Gr w w' := by
  refine (rget_any h hA hl id).mono ?_
  obtain ⟨j, hj, hD⟩ := hD
  rintro e w' ⟨i, hc, hcase, hG⟩
  obtain rfl := hc.uniq hj
  rcases hD with ⟨hth, rfl, rfl⟩ | ⟨hth, rfl, rfl⟩
  · rcases hcase with ⟨_, rfl⟩ | ⟨h2, _⟩
    · exact ⟨rfl, hG⟩
    · rw [hth] at h2; cases h2
  · rcases hcase with ⟨h2, _⟩ | ⟨_, rfl⟩
    · rw [hth] at h2; cases h2
    · exact ⟨rfl, hG⟩
theorem del_u (h : TabIs B w t room v L) (hB : B ≤ w.heap.size) (id : Int) : Calls Tryd.prog 18 #[pT t, .int .u32 id] w fun e w' =>
    ∃ was ok v' L', e = .returned (.tuple #[vV was, .bool ok]) ∧ TabIs B w' t room v' L' ∧ Chg (tP t v) w w' ∧ NewRow w v v' ∧ DelD L id was ok L' := by
  refine (del_any h hB id).mono ?_
  rintro e w' ⟨i, hc, hC, ⟨hth, rfl, v', hT, ev⟩ | ⟨hth, rfl, hT⟩⟩
  · exact ⟨_, _, v', _, rfl, hT, hC, fun g e => .inl (ev ▸ e), i, hc, .inl ⟨hth, rfl, rfl, rfl⟩⟩
  · exact ⟨_, _, v, _, rfl, hT, hC, fun g e => .inl e, i, hc, .inr ⟨hth, rfl, rfl, rfl⟩⟩
theorem rdel_u {was : Int} {ok : Bool} {L' : List En} (h : RTab B w r room vr L) (hB : B ≤ w.heap.size) (hA : Asc L) (hl : L.length ≤ 65536) (id : Int) (hD : DelD L id was ok L') : Calls Tryd.prog 42 #[pT r, .int .u32 id] w fun e w' =>
    e = .returned (.tuple #[.int .i64 was, .bool ok]) ∧ ∃ v', RTab B w' r room v' L' ∧ Chg (tP r vr) w w' ∧ NewRow w vr v' := by
  refine (rdel_any h hB hA hl id).mono ?_
  obtain ⟨j, hj, hD⟩ := hD
  rintro e w' ⟨i, hc, hcase⟩
  obtain rfl := hc.uniq hj
  rcases hD with ⟨hth, rfl, rfl, rfl⟩ | ⟨hth, rfl, rfl, rfl⟩
  · rcases hcase with ⟨_, rfl, ⟨v', hT, hN⟩, hC⟩ | ⟨h2, _⟩
    · exact ⟨rfl, v', hT, hC.wide (fun _ _ e => .inl e), hN⟩
    · rw [hth] at h2; cases h2
  · rcases hcase with ⟨h2, _⟩ | ⟨_, rfl, hG⟩
    · rw [hth] at h2; cases h2
    · exact ⟨rfl, vr, h.gr hG, .of_gr hG, fun g e => .inl e⟩
theorem next_u (h : TabIs B w t room v L) (id : Int) (all : Bool) : Calls Tryd.prog 17 #[pT t, .int .u32 id, .bool all] w fun e w' => ∃ num was ok, e = .returned (.tuple #[.int .u32 num, vV was, .bool ok]) ∧ Gr w w' ∧ NextD L id all num was ok := by
  refine (next_any h id all).mono ?_
  rintro e w' ⟨c, i, hc, hi, hcase, hG⟩
  have key := key_of h.asc hc
  have KY : ∀ (k : Nat) (x : En), L[k]? = some x → (i ≤ k ↔ (all = true ∨ id < x.1)) := fun k x hk => by
    cases all with
    | true => simp only [if_true] at hi; subst hi; simp
    | false => simp only [Bool.false_eq_true, if_false] at hi; subst hi; simpa using key k x hk
  rcases hcase with ⟨x, hx, rfl⟩ | ⟨hl, rfl⟩
  · refine ⟨_, _, _, rfl, hG, .inl ⟨i, x, hx, (KY i x hx).1 (Nat.le_refl _), fun t y hy ht => ?_, rfl, rfl, rfl⟩⟩
    have := mt (KY t y hy).2 (by omega)
    refine ⟨by cases all <;> simp_all, fun h => this (.inr h)⟩
  · refine ⟨_, _, _, rfl, hG, .inr ⟨fun t y hy => ?_, rfl, rfl, rfl⟩⟩
    have htl := (List.getElem?_eq_some_iff.1 hy).1
    have := mt (KY t y hy).2 (by omega)
    refine ⟨by cases all <;> simp_all, fun h => this (.inr h)⟩
theorem rnext_u {num was : Int} {ok all : Bool} (h : RTab B w r room vr L) (hl : L.length ≤ 65536) (id : Int) (hD : NextD L id all num was ok) : Calls Tryd.prog 43 #[pT r, .int .u32 id, .bool all] w fun e w' => e = .returned (.tuple #[.int .u32 num, .int .i64 was, .bool ok]) ∧ Gr w w' := by
  refine (rnext_any h hl id all).mono ?_
  rintro e w' ⟨hcase, hG⟩
  have no : ∀ {y : En}, (all = false ∧ ¬ id < y.1) → (all = true ∨ id < y.1) → False := fun h1 h2 => by
    rcases h2 with h2 | h2
    · rw [h1.1] at h2; cases h2
    · exact h1.2 h2
  rcases hD with ⟨i, x, hx, hp, hm, rfl, rfl, rfl⟩ | ⟨hm, rfl, rfl, rfl⟩
  · rcases hcase with ⟨j, y, hy, hq, hn, rfl⟩ | ⟨hn, _⟩
    · have : i = j := by
        rcases Nat.lt_trichotomy i j with h | h | h
        · exact (no (hn i x hx h) hp).elim
        · exact h
        · exact (no (hm j y hy h) hq).elim
      subst this
      rw [hx] at hy
      cases hy
      exact ⟨rfl, hG⟩
    · exact (no (hn i x hx) hp).elim
  · rcases hcase with ⟨j, y, hy, hq, hn, rfl⟩ | ⟨hn, rfl⟩
    · exact (no (hm j y hy) hq).elim
    · exact ⟨rfl, hG⟩
end
end Go.Proofs.YtjnjpjpgokdciaaDoor

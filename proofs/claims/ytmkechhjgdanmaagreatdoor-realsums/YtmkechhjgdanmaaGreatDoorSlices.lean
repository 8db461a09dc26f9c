/- Slices: whole numbers that came in, words that a call has laid. -/
import Derived.Test.YtmkechhjgdanmaaGreatDoorSumW
import Derived.Test.YtmkechhjgdanmaaGreatDoorLv5
namespace Go.Proofs.YtmkechhjgdanmaaGreatDoor
open Go.RowKit Go.Sort

/-- A slice of whole numbers that came in. -/
def Zs (w : World) (k : IntKind) (v : Value) (z : List Int) : Prop := ∃ ao cap, v = .slice ao z.length cap ∧ ∀ i, i < z.length → ∃ b off, ao = some ⟨b, off, none⟩ ∧ w.cell? ⟨b, off + i, none⟩ = some (.int k (z.getD i 0))
theorem Tryz.info23 : (Tryz.prog.info? 23).map (fun i => (i.zero, i.size, i.bytes)) = some (some (.float .f64 0), 1, 8) := by kernel_rfl
def fls (l : List Nat) : List Value := l.map (Value.float .f64)
theorem fls_len (l : List Nat) : (fls l).length = l.length := by simp [fls]
theorem Fs.of_own {w : World} {base : Nat} {sv : Value} {l : List Nat} (h : w.ownsRow base 23 1 sv l.length (fls l)) : Fs w sv l := by
  rcases h.2 with ⟨h2, h3⟩ | ⟨g, cap, cur, h3, h4, h5, h6, h7, h8, h9⟩
  · exact .inl ⟨h2, List.eq_nil_of_length_eq_zero h3⟩
  · refine .inr ⟨g, cap, h3, fun i hi => ?_⟩
    subst h3
    rw [own_cell h i hi]
    simp [fls, List.getD, hi]
/-- One word more at the end of a slice that the call owns. -/
theorem push_below {W wr w' : World} {X k : Nat} {sv d : Value} {xs : List Value} (hown : wr.ownsRow X 23 1 sv k xs) (hb : Below X W wr) (hX : X ≤ wr.heap.size)
    (hg : (wr.alloc (.cells #[d] 23)).grownBy w' sv.ownBlock) : Below X W w' := by
  refine (hb.alloc hX _).grown hg (by simp; omega) fun k hk => ?_
  have := (hown.lt k hk).1; omega
theorem push_size {wr w' : World} {d : Value} {row : Option Nat} (hg : (wr.alloc (.cells #[d] 23)).grownBy w' row) : wr.heap.size ≤ w'.heap.size := by
  have := hg.size
  rw [World.size_alloc] at this
  omega
theorem nil_own (w : World) (X : Nat) : w.ownsRow X 23 1 (.slice none 0 0) 0 (fls []) := ⟨rfl, .inl ⟨rfl, rfl⟩⟩
theorem fls_one (l : List Nat) (k : Nat) (h : k < l.length) : fls (l.take k) ++ [.float .f64 (l.getD k 0)] = fls (l.take (k + 1)) := by
  have e : l.take (k + 1) = l.take k ++ [l.getD k 0] := by
    rw [List.take_add_one, List.getElem?_eq_getElem h]
    simp [List.getD, h]
  rw [e]
  unfold fls
  rw [List.map_append]
  rfl
theorem own_shape {w : World} {base : Nat} {sv : Value} {l : List Nat} (h : w.ownsRow base 23 1 sv l.length (fls l)) :
    ∃ ax cap, sv = .slice ax l.length cap ∧ l.length ≤ cap ∧ cap ≤ maxLen ∧ ∀ i, i < l.length → ∃ g, ax = some ⟨g, 0, none⟩ ∧ w.cell? ⟨g, i, none⟩ = some (.float .f64 (l.getD i 0)) := by
  have hF := Fs.of_own h
  rcases h.2 with ⟨h2, h3⟩ | ⟨g, cap, cur, h3, h4, h5, h6, h7, h8, h9⟩
  · exact ⟨none, 0, by rw [h3]; exact h2, by omega, by unfold maxLen; omega, fun i hi => by omega⟩
  · refine ⟨some ⟨g, 0, none⟩, cap, h3, h6, h7, fun i hi => ⟨g, rfl, ?_⟩⟩
    subst h3
    rw [own_cell h i hi]
    simp [fls, List.getD, hi]
theorem news_drop {w : World} {g k : Nat} {l : List Nat} (h : ∀ i, i < l.length → w.cell? ⟨g, i, none⟩ = some (.float .f64 (l.getD i 0))) : ∀ (j : Nat) (u : Value), (fls (l.drop k))[j]? = some u → w.cell? ((⟨g, k, none⟩ : Addr).add j) = some u := by
  intro j u hu
  rw [Lib.add_plain]
  have hj : k + j < l.length := by
    have := (List.getElem?_eq_some_iff.1 hu).1
    simp [fls] at this
    omega
  rw [h (k + j) hj]
  rw [← hu]
  simp [fls, List.getD, hj]
theorem news_take {w : World} {g k : Nat} {l : List Nat} (h : ∀ i, i < l.length → w.cell? ⟨g, i, none⟩ = some (.float .f64 (l.getD i 0))) : ∀ (j : Nat) (u : Value), (fls (l.take k))[j]? = some u → w.cell? ((⟨g, 0, none⟩ : Addr).add j) = some u := by
  intro j u hu
  rw [Lib.add_plain, Nat.zero_add]
  have hj : j < l.length ∧ j < k := by
    have := (List.getElem?_eq_some_iff.1 hu).1
    simp [fls] at this
    omega
  rw [h j hj.1]
  rw [← hu]
  simp [fls, List.getD, hj]
theorem fls_one_cell {l : List Nat} : ∀ u ∈ fls l, u.oneCell' = true := by
  intro u hu
  simp [fls] at hu
  obtain ⟨a, _, rfl⟩ := hu
  rfl
theorem Fs.of_shape {w : World} {ax : Option Addr} {cap : Nat} {l : List Nat} (h : ∀ i, i < l.length → ∃ g, ax = some ⟨g, 0, none⟩ ∧ w.cell? ⟨g, i, none⟩ = some (.float .f64 (l.getD i 0))) (h0 : l = [] → ax = none ∧ cap = 0) : Fs w (.slice ax l.length cap) l := by
  cases l with
  | nil => obtain ⟨rfl, rfl⟩ := h0 rfl; exact .inl ⟨rfl, rfl⟩
  | cons a l =>
    obtain ⟨g, rfl, _⟩ := h 0 (by simp)
    refine .inr ⟨g, cap, rfl, fun i hi => ?_⟩
    obtain ⟨g', e, hc⟩ := h i hi
    cases e
    exact hc
end Go.Proofs.YtmkechhjgdanmaaGreatDoor

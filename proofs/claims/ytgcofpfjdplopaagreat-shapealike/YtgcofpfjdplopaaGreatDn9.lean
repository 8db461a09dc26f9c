/- The shapes that ShapeAlike makes: what Check, Covers and Meets tell of them. -/
import Derived.Test.YtgcofpfjdplopaaGreatOg9J
namespace Go.Proofs.YtgcofpfjdplopaaGreat
section
set_option linter.unusedSimpArgs false
open Go.RowKit Go.Shelf Go.Sort

theorem pts_one {w : World} {B : Nat} {l : List P2} {i : Nat} (h : Pts w (some ⟨B, 0, none⟩) l) (hi : i < l.length) : w.cell? ⟨B, i * 2, none⟩ = some (.int .i32 (l.getD i (0, 0)).1) ∧ w.cell? ⟨B, i * 2 + 1, none⟩ = some (.int .i32 (l.getD i (0, 0)).2) := by
  obtain ⟨b, off, e, c0, c1⟩ := h i hi
  simp only [Option.some.injEq, Addr.mk.injEq] at e
  obtain ⟨rfl, rfl, _⟩ := e
  simp only [Nat.zero_add] at c0 c1
  exact ⟨c0, c1⟩
theorem lat_inP {p : P2} (h : lat p) : latP p = true := (latP_iff p).2 h
theorem lat_32 {p : P2} (h : lat p) : P32 p := by unfold lat at h; unfold P32 in32; omega
section
variable {a b p q : P2} (ha : lat a) (hb : lat b) (hp : lat p) (hq : lat q) {B : Nat} {w : World}

theorem disc_of (ha : lat a) (h : Pts w (some ⟨B, 0, none⟩) [a]) : ∀ w', Below w.heap.size w w' → Calls Tryz.prog 19 #[shp 2 0 (some ⟨B, 0, none⟩) none 1 1 0 0] w' fun e w'' => ∃ D, e = .returned (.tuple #[.iface 126 (.pointer (some ⟨D, 0, none⟩)), .int .i64 0]) ∧ Bl w'' D 128 #[.int .i32 a.1, .int .i32 a.2, .int .i32 0] ∧ Below w'.heap.size w' w'' := fun w' h' => by
  have hP := h.mono h'
  refine of_ok 2 0 (some ⟨B, 0, none⟩) none 1 1 0 0 126 (fun W D => Bl W D 128 #[.int .i32 a.1, .int .i32 a.2, .int .i32 0]) w' (fun W hW => ?_) (fun W hW => ?_)
  · have e : chkF 2 0 [a] 0 = 0 := by
      unfold chkF discF sizeF forB; rw [if_neg (by omega)]; simp [lat_inP ha]
    have := check_ne1 2 0 (some ⟨B, 0, none⟩, 1, [a]) none 0 0 (by omega) (by simp) (by simp) (by simp) (by omega) W (hP.mono hW)
    rw [e] at this
    exact this.mono fun e w' h => ⟨h.1, h.2.below⟩
  · obtain ⟨c0, c1⟩ := pts_one (hP.mono hW) (i := 0) (by simp)
    exact (area_disc 0 B 0 none 1 0 0 a.1 a.2 W c0 c1).mono fun e w' ⟨D, h1, h2, h3⟩ => ⟨D, h1, h2, h3.below⟩
theorem disc_cov (ha : lat a) (hp : lat p) (h : Pts w (some ⟨B, 0, none⟩) [a]) : Calls Tryz.prog 15 #[shp 2 0 (some ⟨B, 0, none⟩) none 1 1 0 0, pt p.1 p.2] w fun e w' => e = .returned (.bool (decide (p = a))) ∧ Below w.heap.size w w' :=
  covers_ok 2 0 _ none 1 1 0 0 126 194 _ p _ w (.inr (.inl ⟨rfl, rfl⟩)) (disc_of ha h) (fun w' D hD => by rw [← near00 ha hp]; exact (disc_covers D a 0 (by omega) p w' hD).mono fun e w' h => ⟨h.1, h.2.below⟩)
theorem disc_mee (ha : lat a) (hp : lat p) (hq : lat q) (h : Pts w (some ⟨B, 0, none⟩) [a]) : Calls Tryz.prog 17 #[shp 2 0 (some ⟨B, 0, none⟩) none 1 1 0 0, pt p.1 p.2, pt q.1 q.2] w fun e w' => e = .returned (.bool (onP a p q)) ∧ Below w.heap.size w w' :=
  meets_ok 2 0 _ none 1 1 0 0 126 195 _ p q _ w (.inr (.inl ⟨rfl, rfl⟩)) (disc_of ha h) (fun w' D hD => by rw [← near0 ha hp hq]; exact (disc_meets D a 0 (by omega) p q w' hD).mono fun e w' h => ⟨h.1, h.2.below⟩)

def CorrQ (a b : P2) (W : World) (D : Nat) : Prop := ∃ g cap, Bl W D 134 #[.slice (some ⟨g, 0, none⟩) 2 cap, .int .i32 0] ∧ Pts W (some ⟨g, 0, none⟩) [a, b] ∧ 2 ≤ cap ∧ cap ≤ 9223372036854775807
theorem own_some {w : World} {base n : Nat} {sv : Value} {l : List P2} (h : w.ownsRow base 28 2 sv l.length (flat l)) (hl : l.length = n) (h0 : 0 < n) : ∃ g cap, sv = .slice (some ⟨g, 0, none⟩) n cap ∧ Pts w (some ⟨g, 0, none⟩) l ∧ n ≤ cap ∧ cap ≤ 9223372036854775807 := by
  subst hl
  rcases h.2 with ⟨_, e⟩ | ⟨g, cap, cur, e, _, _, h1, h2, _, _⟩
  · omega
  · subst e
    exact ⟨g, cap, rfl, Pts.of_own h, h1, Nat.le_trans h2 (by decide)⟩
theorem corr_of (hab : a ≠ b) (ha : lat a) (hb : lat b) (h : Pts w (some ⟨B, 0, none⟩) [a, b]) : ∀ w', Below w.heap.size w w' → Calls Tryz.prog 19 #[shp 4 0 (some ⟨B, 0, none⟩) none 2 2 0 0] w' fun e w'' => ∃ D, e = .returned (.tuple #[.iface 132 (.pointer (some ⟨D, 0, none⟩)), .int .i64 0]) ∧ CorrQ a b w'' D ∧ Below w'.heap.size w' w'' := fun w' h' => by
  have hP := h.mono h'
  refine of_ok 4 0 (some ⟨B, 0, none⟩) none 2 2 0 0 132 (CorrQ a b) w' (fun W hW => ?_) (fun W hW => ?_)
  · have e : chkF 4 0 [a, b] 0 = 0 := by
      have h1 : anyOut [a, b] = false := by unfold anyOut; simp [lat_inP ha, lat_inP hb]
      have h2 : standB [a, b] = false := stand_neg (fun j hj => by
        have : j = 0 := by simpa using hj
        subst this; simpa [List.getD] using fun e : b = a => hab e.symm)
      unfold chkF corrF sizeF forB; rw [h1, h2]; simp
    have := check_ne1 4 0 (some ⟨B, 0, none⟩, 2, [a, b]) none 0 0 (by omega) (by simp) (by simp) (by simp) (by omega) W (hP.mono hW)
    rw [e] at this
    exact this.mono fun e w' h => ⟨h.1, h.2.below⟩
  · refine (area_corr 0 (some ⟨B, 0, none⟩) none [a, b] 2 0 0 (by simp) (by simp) W (hP.mono hW)).mono fun e w' ⟨D, sv, h1, h2, h3, h4⟩ => ⟨D, h1, ?_, h4⟩
    obtain ⟨g, cap, rfl, e1, e2, e3⟩ := own_some h3 rfl (by simp)
    exact ⟨g, cap, h2, e1, e2, e3⟩
theorem corr_cov (hab : a ≠ b) (ha : lat a) (hb : lat b) (hp : lat p) (h : Pts w (some ⟨B, 0, none⟩) [a, b]) : Calls Tryz.prog 15 #[shp 4 0 (some ⟨B, 0, none⟩) none 2 2 0 0, pt p.1 p.2] w fun e w' => e = .returned (.bool (onP p a b)) ∧ Below w.heap.size w w' :=
  covers_ok 4 0 _ none 2 2 0 0 132 204 _ p _ w (.inr (.inr (.inr ⟨rfl, rfl⟩))) (corr_of hab ha hb h) (fun w' D ⟨g, cap, hD, h1, h2, h3⟩ => by rw [← corr_on ha hb hp]; exact (corr_covers D g 0 cap [a, b] 0 (by omega) (by simp) (by simp) h2 h3 p w' hD h1).mono fun e w' h => ⟨h.1, h.2.below⟩)
theorem corr_mee (hab : a ≠ b) (ha : lat a) (hb : lat b) (hp : lat p) (hq : lat q) (h : Pts w (some ⟨B, 0, none⟩) [a, b]) : Calls Tryz.prog 17 #[shp 4 0 (some ⟨B, 0, none⟩) none 2 2 0 0, pt p.1 p.2, pt q.1 q.2] w fun e w' => e = .returned (.bool (touch6 a b p q)) ∧ Below w.heap.size w w' :=
  meets_ok 4 0 _ none 2 2 0 0 132 205 _ p q _ w (.inr (.inr (.inr ⟨rfl, rfl⟩))) (corr_of hab ha hb h) (fun w' D ⟨g, cap, hD, h1, h2, h3⟩ => by rw [← corr_touch ha hb hp hq]; exact (corr_meets D g 0 cap [a, b] 0 (by omega) (by simp) (by simp) h2 h3 p q w' hD h1).mono fun e w' h => ⟨h.1, h.2.below⟩)

theorem box_chk (ha : lat a) (hb : lat b) (h1 : a.1 ≤ b.1) (h2 : a.2 ≤ b.2) (h : Pts w (some ⟨B, 0, none⟩) [a, b]) : Calls Tryz.prog 14 #[shp 3 0 (some ⟨B, 0, none⟩) none 2 2 0 0] w fun e w' => e = .returned (.int .i64 0) ∧ Below w.heap.size w w' := by
  have e : chkF 3 0 [a, b] 0 = 0 := by
    unfold chkF rectF rightB forB; simp [lat_inP ha, lat_inP hb, h1, h2]
  have := check_ne1 3 0 (some ⟨B, 0, none⟩, 2, [a, b]) none 0 0 (by omega) (by simp) (by simp) (by simp) (by omega) w h
  rw [e] at this
  exact this.mono fun e w' h => ⟨h.1, h.2.below⟩
theorem box_of (ha : lat a) (hb : lat b) (h1 : a.1 ≤ b.1) (h2 : a.2 ≤ b.2) (h : Pts w (some ⟨B, 0, none⟩) [a, b]) : ∀ w', Below w.heap.size w w' → Calls Tryz.prog 19 #[shp 3 0 (some ⟨B, 0, none⟩) none 2 2 0 0] w' fun e w'' => ∃ D, e = .returned (.tuple #[.iface 129 (.pointer (some ⟨D, 0, none⟩)), .int .i64 0]) ∧ Bl w'' D 131 #[.int .i32 a.1, .int .i32 a.2, .int .i32 b.1, .int .i32 b.2] ∧ Below w'.heap.size w' w'' := fun w' h' => by
  have hP := h.mono h'
  refine of_ok 3 0 (some ⟨B, 0, none⟩) none 2 2 0 0 129 (fun W D => Bl W D 131 #[.int .i32 a.1, .int .i32 a.2, .int .i32 b.1, .int .i32 b.2]) w' (fun W hW => box_chk ha hb h1 h2 (hP.mono hW)) (fun W hW => ?_)
  obtain ⟨c0, c1⟩ := pts_one (hP.mono hW) (i := 0) (by simp)
  obtain ⟨c2, c3⟩ := pts_one (hP.mono hW) (i := 1) (by simp)
  exact (area_rect 0 B 0 none 2 0 0 a.1 a.2 b.1 b.2 W c0 c1 c2 c3).mono fun e w' ⟨D, h1, h2, h3⟩ => ⟨D, h1, h2, h3.below⟩
theorem box_cov (ha : lat a) (hb : lat b) (h1 : a.1 ≤ b.1) (h2 : a.2 ≤ b.2) (h : Pts w (some ⟨B, 0, none⟩) [a, b]) : Calls Tryz.prog 15 #[shp 3 0 (some ⟨B, 0, none⟩) none 2 2 0 0, pt p.1 p.2] w fun e w' => e = .returned (.bool (hasB a.1 a.2 b.1 b.2 p.1 p.2)) ∧ Below w.heap.size w w' :=
  covers_ok 3 0 _ none 2 2 0 0 129 200 _ p _ w (.inr (.inr (.inl ⟨rfl, rfl⟩))) (box_of ha hb h1 h2 h) (fun w' D hD => (rect_covers D a b p w' hD).mono fun _ _ h => ⟨h.1, h.2.below⟩)
theorem box_mee (ha : lat a) (hb : lat b) (h1 : a.1 ≤ b.1) (h2 : a.2 ≤ b.2) (h : Pts w (some ⟨B, 0, none⟩) [a, b]) : Calls Tryz.prog 17 #[shp 3 0 (some ⟨B, 0, none⟩) none 2 2 0 0, pt p.1 p.2, pt q.1 q.2] w fun e w' => e = .returned (.bool (rectM a b p q)) ∧ Below w.heap.size w w' :=
  meets_ok 3 0 _ none 2 2 0 0 129 201 _ p q _ w (.inr (.inr (.inl ⟨rfl, rfl⟩))) (box_of ha hb h1 h2 h) (fun w' D hD => rect_meets D a b p q w' hD)

def PolyQ (L : List P2) (W : World) (D : Nat) : Prop := ∃ g cap, Bl W D 162 #[.slice (some ⟨g, 0, none⟩) 4 cap, .slice none 0 0] ∧ Pts W (some ⟨g, 0, none⟩) L
theorem pol_chk (ha : lat a) (hb : lat b) (h1 : a.1 < b.1) (h2 : a.2 < b.2) (h : Pts w (some ⟨B, 0, none⟩) (crnL a b)) : Calls Tryz.prog 14 #[shp 1 0 (some ⟨B, 0, none⟩) none 4 4 0 0] w fun e w' => e = .returned (.int .i64 0) ∧ Below w.heap.size w w' :=
  check_poly0 (some ⟨B, 0, none⟩) none (crnL a b) 4 0 (by simp [crnL]) (by simp) (ring_check ha hb h1 h2) w h
theorem pol_of (ha : lat a) (hb : lat b) (h1 : a.1 < b.1) (h2 : a.2 < b.2) (h : Pts w (some ⟨B, 0, none⟩) (crnL a b)) : ∀ w', Below w.heap.size w w' → Calls Tryz.prog 19 #[shp 1 0 (some ⟨B, 0, none⟩) none 4 4 0 0] w' fun e w'' => ∃ D, e = .returned (.tuple #[.iface 124 (.pointer (some ⟨D, 0, none⟩)), .int .i64 0]) ∧ PolyQ (crnL a b) w'' D ∧ Below w'.heap.size w' w'' := fun w' h' => by
  have hP := h.mono h'
  refine of_ok 1 0 (some ⟨B, 0, none⟩) none 4 4 0 0 124 (PolyQ (crnL a b)) w' (fun W hW => pol_chk ha hb h1 h2 (hP.mono hW)) (fun W hW => ?_)
  refine (area_poly0 0 (some ⟨B, 0, none⟩) none (crnL a b) 4 0 (by simp [crnL]) (by simp) W (hP.mono hW)).mono fun e w' ⟨D, h1, ⟨sv, h2, h3⟩, h4⟩ => ⟨D, h1, ?_, h4⟩
  obtain ⟨g, cap, rfl, e1, _, _⟩ := own_some (n := 4) h3 rfl (by simp)
  exact ⟨g, cap, h2, e1⟩
theorem ring_32 (ha : lat a) (hb : lat b) : All32 (crnL a b) := fun x hx => by
  have a3 := lat_32 ha
  have b3 := lat_32 hb
  unfold crnL at hx
  simp only [List.mem_cons, List.not_mem_nil, or_false] at hx
  rcases hx with rfl | rfl | rfl | rfl
  · exact a3
  · exact ⟨b3.1, a3.2⟩
  · exact b3
  · exact ⟨a3.1, b3.2⟩
theorem no_holes : OkH [] ∧ OkN [] ∧ ∀ w, Hls w none [] := ⟨fun k => by simp [hAt, All32], fun k => by simp [hAt], fun w i hi => by simp at hi⟩
theorem pol_cov (ha : lat a) (hb : lat b) (hp : lat p) (h1 : a.1 < b.1) (h2 : a.2 < b.2) (h : Pts w (some ⟨B, 0, none⟩) (crnL a b)) : Calls Tryz.prog 15 #[shp 1 0 (some ⟨B, 0, none⟩) none 4 4 0 0, pt p.1 p.2] w fun e w' => e = .returned (.bool (hasB a.1 a.2 b.1 b.2 p.1 p.2)) ∧ Below w.heap.size w w' :=
  covers_ok 1 0 _ none 4 4 0 0 124 186 _ p _ w (.inl ⟨rfl, rfl⟩) (pol_of ha hb h1 h2 h) (fun w' D ⟨g, cap, hD, hP⟩ => by rw [← (poly_box h1 h2 p).1]; exact poly_covers D (some ⟨g, 0, none⟩) cap (crnL a b) (ring_32 ha hb) (by simp [crnL]) none 0 [] no_holes.1 (by simp) p (lat_32 hp) w' hD hP (no_holes.2.2 w'))
theorem pol_mee (ha : lat a) (hb : lat b) (hp : lat p) (h1 : a.1 < b.1) (h2 : a.2 < b.2) (h : Pts w (some ⟨B, 0, none⟩) (crnL a b)) : Calls Tryz.prog 17 #[shp 1 0 (some ⟨B, 0, none⟩) none 4 4 0 0, pt p.1 p.2, pt q.1 q.2] w fun e w' => e = .returned (.bool (rectM a b p q)) ∧ Below w.heap.size w w' :=
  meets_ok 1 0 _ none 4 4 0 0 124 187 _ p q _ w (.inl ⟨rfl, rfl⟩) (pol_of ha hb h1 h2 h) (fun w' D ⟨g, cap, hD, hP⟩ => by rw [← (poly_box h1 h2 q).2]; exact poly_meets D (some ⟨g, 0, none⟩) cap (crnL a b) (ring_32 ha hb) (by simp [crnL]) (by simp) none 0 [] no_holes.1 no_holes.2.1 (by simp) p q (lat_32 hp) w' hD hP (no_holes.2.2 w'))
end
end
end Go.Proofs.YtgcofpfjdplopaaGreat

/- The heap in memory; stand. -/
import Derived.Test.YtaapdkjmlplhgaaMo
import Derived.Test.YtaapdkjmlplhgaaNo
import Derived.Laws.AppendOwn
set_option linter.unusedSimpArgs false
set_option linter.unusedVariables false
namespace Go.Proofs.Ytaapdkjmlplhgaa
open Go.RowKit Go.Sort Go.Shelf Go.Maps
attribute [local go_sem] Oper.semAt_some wide_fn
attribute [local simp] wide_fn

theorem put3_chg {w W : World} {p : Nat → Prop} {b i : Nat} {x : Du} (h : Chg p W w) (hb : p b) : Chg p W (put3 w b i x) :=
  ((h.trans (Chg.set w (a := ⟨b, i, none⟩) hb _)).trans (Chg.set _ (a := ⟨b, i + 1, none⟩) hb _)).trans (Chg.set _ (a := ⟨b, i + 2, none⟩) hb _)
theorem flat_set (l : List Du) (r : List Value) (x : Du) (i : Nat) (hi : i < l.length) :
    ((((flat l ++ r).set (i * 3) (.int .u32 x.1)).set (i * 3 + 1) (.int .u32 x.2.1)).set (i * 3 + 2) (.int .u32 x.2.2)) = flat (l.set i x) ++ r := by
  induction l generalizing i with
  | nil => simp at hi
  | cons y l ih =>
    cases i with
    | zero => simp [flat_cons]
    | succ i =>
      have := ih i (by simpa using hi)
      rw [List.set_cons_succ, flat_cons, flat_cons, List.append_assoc, List.append_assoc, ← this, show (i + 1) * 3 = i * 3 + 3 by omega]
      simp [dL]
/-- The list l at the head of block g, which has room for cp. -/
def RowG (w : World) (g cp : Nat) (l : List Du) : Prop := ∃ rest, Bk w g 32 (flat l ++ rest) ∧ l.length * 3 + rest.length = cp * 3 ∧ cp ≤ maxLen
theorem RowG.at {w : World} {g cp : Nat} {l : List Du} (h : RowG w g cp l) : RowAt w g l := by
  obtain ⟨r, h, _⟩ := h
  exact ⟨r, h⟩
theorem RowG.lt {w : World} {g cp : Nat} {l : List Du} (h : RowG w g cp l) : g < w.heap.size := h.at.lt
theorem RowG.same {w w' : World} {g cp : Nat} {l : List Du} (h : RowG w g cp l) (e : w'.heap[g]? = w.heap[g]?) : RowG w' g cp l := by
  obtain ⟨r, h, k⟩ := h
  exact ⟨r, h.same e, k⟩
theorem RowG.set {w : World} {g cp : Nat} {l : List Du} (h : RowG w g cp l) {i : Nat} (hi : i < l.length) (x : Du) : RowG (put3 w g (i * 3) x) g cp (l.set i x) := by
  obtain ⟨r, h, k⟩ := h
  refine ⟨r, ?_, by simpa using k⟩
  have := ((h.set (i * 3) (.int .u32 x.1)).set (i * 3 + 1) (.int .u32 x.2.1)).set (i * 3 + 2) (.int .u32 x.2.2)
  rw [flat_set l r x i hi] at this
  exact this
theorem RowG.frozen {w : World} {g cp : Nat} {l : List Du} (h : RowG w g cp l) (i : Nat) : w.frozen? ⟨g, i, none⟩ = false := by
  obtain ⟨r, h, k⟩ := h
  exact h.frozen i
theorem RowG.own {w : World} {g cp B : Nat} {l : List Du} (h : RowG w g cp l) (hB : B ≤ g) : w.ownsRow B 32 3 (.slice (some ⟨g, 0, none⟩) l.length cp) l.length (flat l) := by
  obtain ⟨r, h, k1, k2⟩ := h
  have hl := flat_len l
  refine ⟨hl, .inr ⟨g, cp, (flat l ++ r).toArray, rfl, hB, h, by omega, k2, by simp; omega, ?_⟩⟩
  simp [← hl]
theorem row_of_own {w : World} {B : Nat} {v : Value} {l : List Du} (h : w.ownsRow B 32 3 v l.length (flat l)) :
    (v = .slice none 0 0 ∧ l = []) ∨ ∃ g cp, v = .slice (some ⟨g, 0, none⟩) l.length cp ∧ B ≤ g ∧ RowG w g cp l ∧ l.length ≤ cp := by
  rcases h.2 with ⟨h1, h2⟩ | ⟨g, cap, cur, h1, h2, h3, h4, h5, h6, h7⟩
  · exact .inl ⟨h1, List.eq_nil_of_length_eq_zero h2⟩
  · refine .inr ⟨g, cap, h1, h2, ⟨cur.toList.drop (l.length * 3), ?_, ?_, h5⟩, h4⟩
    · unfold Bk
      rw [h3, ← h7, List.take_append_drop]
    · simp
      omega
abbrev hC (v : Value) (pb : Nat) : List Value := [v, .func (.func 21) #[] #[], .func (.func 19) #[] #[.pointer (some ⟨pb, 0, none⟩)]]
/-- A heap with the list l in block g, and the map m of places. -/
structure Hs (w : World) (h pb mb g cp : Nat) (l : List Du) (s : Nat) (m : Pf) : Prop where
  heap : Bk w h 62 (hC (.slice (some ⟨g, 0, none⟩) l.length cp) pb)
  cap : Bk w pb 52 [.map (some mb)]
  row : RowG w g cp l
  map : MapF w mb s m
theorem bk_ty {w : World} {b t t' : Nat} {l l' : List Value} (h : Bk w b t l) (k : Bk w b t' l') : t = t' := by
  unfold Bk at h k
  rw [h] at k
  simp only [Option.some.injEq, Obj.cells.injEq] at k
  exact k.2.1
theorem bk_map {w : World} {b t : Nat} {l : List Value} {es : Array MapEntry} {c : Nat} (h : Bk w b t l) (k : w.heap[b]? = some (.map es c)) : False := by
  unfold Bk at h
  rw [h] at k
  cases k
section
variable {w : World} {h pb mb g cp : Nat} {l : List Du} {s : Nat} {m : Pf}
theorem Hs.ne (H : Hs w h pb mb g cp l s m) : h ≠ g ∧ pb ≠ g ∧ h ≠ mb ∧ pb ≠ mb ∧ g ≠ mb := by
  obtain ⟨r, hr, _⟩ := H.row
  obtain ⟨es, c, hm⟩ := H.map.isMap
  refine ⟨fun e => ?_, fun e => ?_, fun e => ?_, fun e => ?_, fun e => ?_⟩
  · have := bk_ty H.heap (e ▸ hr); cases this
  · have := bk_ty H.cap (e ▸ hr); cases this
  · exact bk_map H.heap (e ▸ hm)
  · exact bk_map H.cap (e ▸ hm)
  · exact bk_map hr (e ▸ hm)
theorem Hs.gr (H : Hs w h pb mb g cp l s m) {w' : World} (k : Gr w w') : Hs w' h pb mb g cp l s m :=
  ⟨H.heap.gr k, H.cap.gr k, H.row.same (k.below.block _ H.row.lt), H.map.same (k.below.block _ H.map.lt)⟩
/-- Whatever leaves the four blocks leaves the heap. -/
theorem Hs.chg (H : Hs w h pb mb g cp l s m) {w' : World} {p : Nat → Prop} (k : Chg p w w') (h1 : ¬ p h) (h2 : ¬ p pb) (h3 : ¬ p g) (h4 : ¬ p mb) : Hs w' h pb mb g cp l s m :=
  ⟨H.heap.chg k h1, H.cap.chg k h2, H.row.same (k.block _ H.row.lt h3), H.map.same (k.block _ H.map.lt h4)⟩
theorem Hs.put (H : Hs w h pb mb g cp l s m) {i : Nat} (hi : i < l.length) (x : Du) : Hs (put3 w g (i * 3) x) h pb mb g cp (l.set i x) s m := by
  obtain ⟨n1, n2, n3, n4, n5⟩ := H.ne
  refine ⟨by rw [List.length_set]; exact H.heap.same (put3_other n1), H.cap.same (put3_other n2), H.row.set hi x, H.map.same (put3_other (Ne.symm n5))⟩
end
/-- What a call on the heap may change. -/
abbrev hP (g mb : Nat) : Nat → Prop := fun k => k = g ∨ k = mb
set_option maxHeartbeats 4000000 in
theorem stand_any (h pb mb g cp : Nat) (l : List Du) (s : Nat) (m : Pf) (x : Du) (i : Nat) (w : World) (H : Hs w h pb mb g cp l s m) (hx : okD x) (hi : i < l.length) (hl : l.length ≤ 5000) (hs : s ≤ 5000) :
    Calls Try.prog 47 #[.pointer (some ⟨h, 0, none⟩), dV x, .int .i64 i] w fun e w' => e = .returned (.tuple #[]) ∧
      Hs w' h pb mb g cp (l.set i x) (if (m x.2).isSome then s else s + 1) (upd m x.2 (some i)) ∧ Chg (hP g mb) w w' := by
  obtain ⟨xa, xo, xf⟩ := x
  have hk : okK (xo, xf) := hx.2
  dsimp only
  generalize es : (if (m (xo, xf)).isSome then s else s + 1) = s'
  replace es := hid0 es
  have k4 := Bk.new w 32 (dL (xa, xo, xf))
  have gg := (Gr.refl w).alloc (.cells (dL (xa, xo, xf)).toArray 32)
  dsimp only [dL] at k4 gg
  have H1 := H.gr gg
  have hi' : (i : Int) < (l.length : Int) := by omega
  have hgw := H.row.lt
  clear H
  go_enter Try.func47, Try.ntmps47
  go_upto_region 1 with fail
  generalize w.alloc _ = W at *
  obtain ⟨b4, e4⟩ : ∃ b4, b4 = w.heap.size := ⟨_, rfl⟩
  rw [← e4] at k4 ⊢
  have hb4 : w.heap.size ≤ b4 := by omega
  clear e4
  have c0 := fun n => below_cell (H1.heap.at 0) ((Gr.refl W).drewN n).below
  have x0 := fun n => below_cell (k4.at 0) ((Gr.refl W).drewN n).below
  have x1 := fun n => below_cell (k4.at 1) ((Gr.refl W).drewN n).below
  have x2 := fun n => below_cell (k4.at 2) ((Gr.refl W).drewN n).below
  have HH := hid0 H1
  have K4 := hid0 k4
  clear H1 k4
  obtain ⟨nF, hnF⟩ : ∃ nF : Nat, 5 ≤ nF := ⟨5, by omega⟩
  refine (wpIn_wide (n := nF)).1 ?_
  refine region_head_lit 7 (by kernel_rfl) (by kernel_rfl) (by simp) (by kernel_rfl) ?_
  simp only [List.take_succ_cons, List.take_zero, List.drop_succ_cons, List.drop_zero]
  repeat (gi_big_quiet_step (fail))
  refine wpQuietIn_nil ?_
  intro _ hw'
  obtain ⟨q, rfl⟩ := hw'
  have gq := (Gr.refl W).drewN q
  have H2 := HH.out.gr gq
  have n1 : b4 ≠ g := by omega
  have k4 := K4.out.gr gq
  have GA := gg.trans gq
  clear c0 x0 x1 x2 HH K4 gq gg
  generalize W.drewN q = W1 at *
  have f0 := H2.row.frozen (i * 3)
  have f1 := H2.row.frozen (i * 3 + 1)
  have f2 := H2.row.frozen (i * 3 + 2)
  have H3 := hid0 (H2.put hi (xa, xo, xf))
  obtain ⟨d0, d1, d2⟩ := H2.row.at.cell hi
  generalize l.getD i (0, 0, 0) = y at d0 d1 d2
  have k5 := hid0 (k4.same (put3_other (w := W1) (b := g) (i := i * 3) (x := (xa, xo, xf)) n1))
  have C1 : Hid (Chg (hP g mb) w (put3 W1 g (i * 3) (xa, xo, xf))) := put3_chg (Chg.of_gr GA) (.inl rfl)
  clear k4 GA H2
  gi_wp2
  clear d0 d1 d2 f0 f1 f2
  dsimp only [put3] at H3 k5 C1
  generalize World.setCell _ _ _ = W2 at *
  have H4 := H3.out
  have c2 := fun n => below_cell (H4.heap.at 2) ((Gr.refl W2).drewN n).below
  have x0 := fun n => below_cell (k5.out.at 0) ((Gr.refl W2).drewN n).below
  have x1 := fun n => below_cell (k5.out.at 1) ((Gr.refl W2).drewN n).below
  have x2 := fun n => below_cell (k5.out.at 2) ((Gr.refl W2).drewN n).below
  clear H4
  refine (wpIn_wide (n := nF)).1 ?_
  refine region_head_lit 6 (by kernel_rfl) (by kernel_rfl) (by simp) (by kernel_rfl) ?_
  simp only [List.take_succ_cons, List.take_zero, List.drop_succ_cons, List.drop_zero]
  repeat (gi_big_quiet_step (fail))
  refine wpQuietIn_nil ?_
  intro _ hw'
  obtain ⟨q2, rfl⟩ := hw'
  have gq := (Gr.refl W2).drewN q2
  have H5 := hid0 (H3.out.gr gq)
  have C2 := hid0 (C1.out.gr gq)
  clear c2 x0 x1 x2 H3 C1 k5 gq
  generalize W2.drewN q2 = W3 at *
  have MV := hid0 (moved_any (xa, xo, xf) i pb mb s m W3 hk H5.out.cap H5.out.map (by omega) (by omega))
  have h1n : 1 ≤ nF := by omega
  gi_wp2_with fail
  refine (callsIn_wide.2 MV.out).mono ?_
  rintro e w4 ⟨rfl, M4, C4⟩
  rw [es.out] at M4
  have H6 : Hs w4 h pb mb g cp (l.set i (xa, xo, xf)) s' (upd m (xo, xf) (some i)) := by
    obtain ⟨n1, n2, n3, n4, n5⟩ := H5.out.ne
    exact ⟨H5.out.heap.chg C4 n3, H5.out.cap.chg C4 n4, H5.out.row.same (C4.block _ H5.out.row.lt n5), M4⟩
  have H6 := hid0 H6
  have C6 := hid0 (C2.out.trans (C4.wide (q := hP g mb) (fun k _ e => .inr e)))
  clear MV H5 C2 M4 C4
  gi_wp2
  go_wp2
  go_end0
  exact ⟨rfl, H6.out, C6.out⟩
end Go.Proofs.Ytaapdkjmlplhgaa

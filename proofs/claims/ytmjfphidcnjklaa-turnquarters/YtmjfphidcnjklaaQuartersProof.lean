/- TurnQuarters, proved: for every number of quarters, every whole way of a size of at most 2^30 and every point of the lattice the law returns true: what undoes the quarter turn and the way is found, and undoes it exactly at the point; and where the point and another one beside it, both on the lattice, are placed on the lattice, what brings them there is found again as the same similarity (outside these bounds the law asks nothing but the closed call); a point is turned by a quarter, and back; the argument reads afterwards as it read before. No conditions. -/
import Derived.Test.YtmjfphidcnjklaaQx
import Derived.Test.YtmjfphidcnjklaaFrame
namespace Go.Proofs.Ytmjfphidcnjklaa
open Go.ChangeShapes Go.WideShapes Go.ChangeAt Go.RowKit Go.Joins

theorem Try.cells3 : Try.prog.cellsOf 3 = 1 := by kernel_rfl
theorem Try.cells4 : Try.prog.cellsOf 4 = 1 := by kernel_rfl
theorem Try.cells82 : Try.prog.cellsOf 82 = 7 := by kernel_rfl
theorem array7 {α : Type} {cs : Array α} (h : cs.size = 7) : ∃ c0 c1 c2 c3 c4 c5 c6, cs = #[c0, c1, c2, c3, c4, c5, c6] := by
  obtain ⟨l⟩ := cs
  match l, h with
  | [c0, c1, c2, c3, c4, c5, c6], _ => exact ⟨c0, c1, c2, c3, c4, c5, c6, rfl⟩
section
variable {H : Type} {enc : TypeId × Value → H} {w : World} {base : Nat} {spare : Nat → Bool} {held : Bool}
abbrev ptD (H : Type) (x y : Int) : DataW H := .agg [.lit (.int .i32 x), .lit (.int .i32 y)]
abbrev wi (a : Int) : Prop := (Lit.int .i32 a).wf = true
set_option maxRecDepth 100000 in
theorem trod_pt {fuel : Nat} {cs : List Value} {z : DataW H × List MemPlace} (h : DataW.trod enc Try.prog w base spare held fuel 57 cs = some z) :
    ∃ x y, cs = [.int .i32 x, .int .i32 y] ∧ z = (ptD H x y, []) ∧ wi x ∧ wi y := by
  obtain ⟨y0, y1, n, hx, hl, h0, h1⟩ := trod_struct2 Try.underlying57 h
  obtain ⟨c0, c1, rfl⟩ := list2 (hl.trans Try.cells57)
  · simp only [Try.cells21, List.drop_zero, List.take_succ_cons, List.take_zero, List.drop_succ_cons] at h0 h1
    obtain ⟨x, e0, rfl, wx⟩ := DataW.trod_int Try.underlying21 h0
    obtain ⟨y, e1, rfl, wy⟩ := DataW.trod_int Try.underlying21 h1
    simp only [List.cons.injEq, and_true] at e0 e1
    subst e0 e1
    exact ⟨x, y, rfl, by simpa using hx, wx, wy⟩
set_option maxRecDepth 100000 in
theorem mk_pt (x y : Int) (wx : wi x) (wy : wi y) : DataW.trod enc Try.prog w base spare held 2 57 [.int .i32 x, .int .i32 y] = some (ptD H x y, []) := by
  have := trod_struct2_mk (enc := enc) (w := w) (base := base) (spare := spare) (held := held) (n := 1) (cs := [.int .i32 x, .int .i32 y]) (y0 := (.lit (.int .i32 x), [])) (y1 := (.lit (.int .i32 y), [])) Try.underlying57 (by simp [Try.cells57])
    (by simp [Try.cells21, DataW.trod, Try.underlying21, wx]) (by simp [Try.cells21, DataW.trod, Try.underlying21, wy])
  simpa using this
abbrev quD (H : Type) (K bx by_ px py far : Int) (up : Bool) : DataW H := .agg [.lit (.int .i64 K), .lit (.int .i32 bx), .lit (.int .i32 by_), ptD H px py, .lit (.int .i32 far), .lit (.bool up)]
set_option maxRecDepth 100000 in
theorem open_qu {r : Reach} {b0 : Nat} {v : Value} {d : DataW H} {p : List MemPlace} (hv : Value.okWide Try.prog w r b0 82 v) (h : DataW.Trod enc Try.prog w base spare held 82 v d p) :
    ∃ K bx by_ px py far up, v = quV K bx by_ px py far up ∧ d = quD H K bx by_ px py far up ∧ p = [] ∧ (Lit.int .i64 K).wf = true ∧ (wi bx ∧ wi by_ ∧ wi px ∧ wi py ∧ wi far) := by
  obtain ⟨cs, rfl, hsz⟩ := okWide_struct Try.underlying82 hv
  obtain ⟨c0, c1, c2, c3, c4, c5, c6, rfl⟩ := array7 (hsz.trans Try.cells82)
  obtain ⟨fuel, hf⟩ := h
  obtain ⟨xs, n, _, hx, _, hl, hi⟩ := DataW.trod_struct Try.underlying82 hf
  have hl' : xs.length = 6 := hl
  match xs, hl' with
  | [y0, y1, y2, y3, y4, y5], _ =>
    have h0 := hi 0 _ rfl
    have h1 := hi 1 _ rfl
    have h2 := hi 2 _ rfl
    have h3 := hi 3 _ rfl
    have h4 := hi 4 _ rfl
    have h5 := hi 5 _ rfl
    simp [Value.cells, Try.cells3, Try.cells4, Try.cells21, Try.cells57] at h0 h1 h2 h3 h4 h5
    obtain ⟨K, e0, rfl, w0⟩ := DataW.trod_int Try.underlying3 h0
    obtain ⟨bx, e1, rfl, w1⟩ := DataW.trod_int Try.underlying21 h1
    obtain ⟨by_, e2, rfl, w2⟩ := DataW.trod_int Try.underlying21 h2
    obtain ⟨px, py, e3, rfl, w3, w4⟩ := trod_pt h3
    obtain ⟨far, e4, rfl, w5⟩ := DataW.trod_int Try.underlying21 h4
    obtain ⟨up, e5, rfl⟩ := DataW.trod_bool Try.underlying4 h5
    simp only [List.cons.injEq, and_true] at e0 e1 e2 e3 e4 e5
    obtain ⟨rfl, rfl⟩ := e3
    subst e0 e1 e2 e4 e5
    simp at hx
    exact ⟨K, bx, by_, px, py, far, up, rfl, hx.1, hx.2, w0, w1, w2, w3, w4, w5⟩
set_option maxRecDepth 100000 in
theorem shut_qu {K bx by_ px py far : Int} {up : Bool} (h0 : (Lit.int .i64 K).wf = true) (h : wi bx ∧ wi by_ ∧ wi px ∧ wi py ∧ wi far) :
    DataW.Trod enc Try.prog w base spare held 82 (quV K bx by_ px py far up) (quD H K bx by_ px py far up) [] := by
  have ts := trod_struct_mk (enc := enc) (w := w) (base := base) (spare := spare) (held := held) (n := 2) (cs := [.int .i64 K, .int .i32 bx, .int .i32 by_, .int .i32 px, .int .i32 py, .int .i32 far, .bool up])
    (xs := [(.lit (.int .i64 K), []), (.lit (.int .i32 bx), []), (.lit (.int .i32 by_), []), (ptD H px py, []), (.lit (.int .i32 far), []), (.lit (.bool up), [])]) Try.underlying82 (by simp [Try.cells82])
    (by
      have mp := mk_pt (enc := enc) (w := w) (base := base) (spare := spare) (held := held) px py h.2.2.1 h.2.2.2.1
      simp [Try.cells3, Try.cells4, Try.cells21, Try.cells57, mp]
      simp [DataW.trod, Try.underlying3, Try.underlying21, Try.underlying4, h0, h.1, h.2.1, h.2.2.2.2])
  exact ⟨_, by simpa [Value.cells] using ts⟩
end

set_option maxRecDepth 100000 in
theorem quarters_lifted (os : Os) (started : os.Started) (H : Type) (enc : TypeId × Value → H) :
    ReturnsInHanded {} Try.checked os 7 .any (Rows.turnQuartersSpec.pre6 enc Try.prog Try.f7 Rows.turnQuartersRow.domain false) (Rows.turnQuartersSpec.post enc Try.prog Try.f7 false true false false) := by
  refine returnsInHanded_of_change (C := Try.checked) own started (by kernel_rfl) Try.func7
    (ChangeSpec.witness6 (enc := enc) (C := Try.checked) false ⟨#[], #[quV 0 0 0 0 0 0 false], []⟩ 8 (by kernel_rfl) (by kernel_rfl) (by kernel_rfl) (by kernel_rfl)) ?_
  intro W base args ds gs before hval0 hW _ _
  have hval : ∀ (j : Nat) t v, Try.f7.params[j]? = some t → args[j]? = some v → Value.okWide Try.prog W .any base t v := hval0
  have hW' := hW
  obtain ⟨p, q, hA0, hV, rfl, _, _⟩ := hW
  have hA : DataW.TrodAll enc Try.prog W 0 (fun _ => true) true Try.f7.params.toList args.toList ds p := hA0
  rw [Try.params7] at hA hval
  obtain ⟨v0, d0, rfl, rfl, h0⟩ := trodAll_one hA
  obtain ⟨rfl, rfl⟩ := trodVars_none hV
  obtain ⟨K, bx, by_, px, py, far, up, rfl, rfl, rfl, w0, w1⟩ := open_qu (hval 0 82 v0 rfl rfl) h0
  clear hA0 hval0
  simp only [List.append_nil] at hW'
  refine (quarters_walk K bx by_ px py far up (wf_i32 w1.2.2.2.2) W).mono fun e W' ⟨he, hg⟩ => ?_
  subst he
  exact ⟨_, rfl, _, _, _, [], [], [], hW', trodAll_mk1 (shut_bool Try.underlying4 _), trodAll_mk1 (shut_qu w0 w1), rfl,
    hg.below.frame _, fun h => by cases h⟩

theorem quarters_holds : Rows.TurnQuartersSaid :=
  OpenClaim.holds_of_wide 7 Try.f7 rfl rfl rfl rfl rfl rfl rfl ⟨rfl, rfl, rfl, rfl, rfl⟩ rfl rfl rfl rfl rfl (by kernel_rfl) Try.func7 (by kernel_rfl)
    (of_decide_eq_true (by kernel_rfl)) (by unfold Func.isWrapper; first | (rw [if_pos (by decide +kernel)]; kernel_rfl) | (rw [if_neg (by decide +kernel)]; exact ⟨rfl, rfl⟩))
    (fun os started H enc _ => quarters_lifted os started H enc)
end Go.Proofs.Ytmjfphidcnjklaa

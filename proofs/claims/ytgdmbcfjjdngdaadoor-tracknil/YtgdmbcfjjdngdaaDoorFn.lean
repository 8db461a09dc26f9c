/- A step, read. -/
import Derived.Test.YtgdmbcfjjdngdaaDoorFr
import Derived.Test.YtgdmbcfjjdngdaaDoorNj
set_option linter.unusedSimpArgs false
namespace Go.Proofs.YtgdmbcfjjdngdaaDoor
open Go.ChangeShapes Go.WideShapes Go.ChangeAt Go.RowKit Go.Joins

theorem Tryd.cells3 : Tryd.prog.cellsOf 3 = 1 := by kernel_rfl
theorem Tryd.cells29 : Tryd.prog.cellsOf 29 = 1 := by kernel_rfl
theorem Tryd.cells39 : Tryd.prog.cellsOf 39 = 1 := by kernel_rfl
theorem Tryd.cells41 : Tryd.prog.cellsOf 41 = 7 := by kernel_rfl
theorem Tryd.cells43 : Tryd.prog.cellsOf 43 = 14 := by kernel_rfl
section
variable {H : Type} {enc : TypeId × Value → H} {w : World} {base : Nat} {spare : Nat → Bool} {held : Bool}
theorem trod_real {k : FloatKind} {t : TypeId} {fuel : Nat} {cs : List Value} {x : DataW H × List MemPlace} (ht : Tryd.prog.underlying t = some (.float k)) (h : DataW.trod enc Tryd.prog w base spare held fuel t cs = some x) : ∃ n, cs = [.float k n] := by
  cases fuel with
  | zero => simp [DataW.trod] at h
  | succ n =>
    unfold DataW.trod at h
    rw [ht] at h
    split at h <;> simp_all
set_option maxRecDepth 100000 in
theorem trod_ids {fuel : Nat} {cs : List Value} {z : DataW H × List MemPlace} (hf : DataW.trod enc Tryd.prog w base spare held fuel 39 cs = some z) :
    ∃ (a : Option Addr) (n c : Nat), cs = [.slice a n c] := by
  rcases Go.Deep.open_slice Tryd.underlying39 hf with ⟨hcs, hx⟩ | ⟨a, len, cap, m, n, D, Pl, hcs, _⟩
  · exact ⟨none, 0, 0, hcs⟩
  · exact ⟨some a, len, cap, hcs⟩
set_option maxRecDepth 100000 in
theorem trod_obj {fuel : Nat} {cs : List Value} {z : DataW H × List MemPlace} (h : DataW.trod enc Tryd.prog w base spare held fuel 41 cs = some z) :
    ∃ (id n2 t2 x y : Int) (sp : Nat) (a : Option Addr) (n c : Nat), cs = [.int .u32 id, .int .u32 n2, .int .u32 t2, .int .i32 x, .int .i32 y, .float .f64 sp, .slice a n c] := by
  obtain ⟨xs, n, _, hx, hlen, hl, hi⟩ := DataW.trod_struct Tryd.underlying41 h
  have hl' : xs.length = 6 := hl
  have hc : cs.length = 7 := hlen.trans Tryd.cells41
  match cs, hc with
  | [c0, c1, c2, c3, c4, c5, c6], _ =>
    match xs, hl' with
    | [y0, y1, y2, y3, y4, y5], _ =>
      have h0 := hi 0 _ rfl
      have h1 := hi 1 _ rfl
      have h2 := hi 2 _ rfl
      have h3 := hi 3 _ rfl
      have h4 := hi 4 _ rfl
      have h5 := hi 5 _ rfl
      simp [Tryd.cells24, Tryd.cells25, Tryd.cells29, Tryd.cells39] at h0 h1 h2 h3 h4 h5
      obtain ⟨id, e0, _, _⟩ := DataW.trod_int Tryd.underlying25 h0
      obtain ⟨n2, e1, _, _⟩ := DataW.trod_int Tryd.underlying25 h1
      obtain ⟨t2, e2, _, _⟩ := DataW.trod_int Tryd.underlying25 h2
      obtain ⟨x, y, e3, _, _⟩ := trod_pt h3
      obtain ⟨sp, e4⟩ := trod_real Tryd.underlying29 h4
      obtain ⟨a, m, c, e5⟩ := trod_ids h5
      simp only [List.cons.injEq, and_true] at e0 e1 e2 e3 e4 e5
      obtain ⟨rfl, rfl⟩ := e3
      subst e0 e1 e2 e4 e5
      exact ⟨id, n2, t2, x, y, sp, a, m, c, rfl⟩
set_option maxRecDepth 100000 in
theorem open_step {r : Reach} {b0 : Nat} {v : Value} {d : DataW H} {p : List MemPlace} (hv : Value.okWide Tryd.prog w r b0 43 v) (h : DataW.Trod enc Tryd.prog w base spare held 43 v d p) :
    ∃ s : Stp, v = sV s := by
  obtain ⟨cs, rfl, hsz⟩ := okWide_struct Tryd.underlying43 hv
  obtain ⟨fuel, hf⟩ := h
  obtain ⟨xs, n, _, hx, hlen, hl, hi⟩ := DataW.trod_struct Tryd.underlying43 hf
  have hl' : xs.length = 7 := hl
  have hc : cs.size = 14 := hsz.trans Tryd.cells43
  obtain ⟨cs⟩ := cs
  match cs, hc with
  | [c0, c1, c2, c3, c4, c5, c6, c7, c8, c9, c10, c11, c12, c13], _ =>
    match xs, hl' with
    | [y0, y1, y2, y3, y4, y5, y6], _ =>
      have h0 := hi 0 _ rfl
      have h1 := hi 1 _ rfl
      have h2 := hi 2 _ rfl
      have h3 := hi 3 _ rfl
      have h4 := hi 4 _ rfl
      have h5 := hi 5 _ rfl
      have h6 := hi 6 _ rfl
      simp [Value.cells, Tryd.cells3, Tryd.cells24, Tryd.cells25, Tryd.cells41] at h0 h1 h2 h3 h4 h5 h6
      obtain ⟨kd, e0, _, _⟩ := DataW.trod_int Tryd.underlying3 h0
      obtain ⟨ob, e1, _, _⟩ := DataW.trod_int Tryd.underlying25 h1
      obtain ⟨fe, e2, _, _⟩ := DataW.trod_int Tryd.underlying25 h2
      obtain ⟨nu, e3, _, _⟩ := DataW.trod_int Tryd.underlying25 h3
      obtain ⟨ti, e4, _, _⟩ := DataW.trod_int Tryd.underlying25 h4
      obtain ⟨x, y, e5, _, _⟩ := trod_pt h5
      obtain ⟨id, n2, t2, x2, y2, sp, a, m, c, e6⟩ := trod_obj h6
      simp only [List.cons.injEq, and_true] at e0 e1 e2 e3 e4 e5 e6
      obtain ⟨rfl, rfl⟩ := e5
      obtain ⟨rfl, rfl, rfl, rfl, rfl, rfl, rfl⟩ := e6
      subst e0 e1 e2 e3 e4
      exact ⟨⟨kd, ob, fe, nu, ti, x, y, id, n2, t2, x2, y2, sp, a, m, c⟩, rfl⟩
end
end Go.Proofs.YtgdmbcfjjdngdaaDoor

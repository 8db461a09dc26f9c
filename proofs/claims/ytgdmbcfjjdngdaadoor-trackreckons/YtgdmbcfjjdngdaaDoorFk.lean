/- What TrackReckons is asked, read, with its size. -/
import Derived.Test.YtgdmbcfjjdngdaaDoorFs
import Derived.Test.YtgdmbcfjjdngdaaDoorRk
set_option linter.unusedSimpArgs false
namespace Go.Proofs.YtgdmbcfjjdngdaaDoor
open Go.ChangeShapes Go.WideShapes Go.ChangeAt Go.RowKit Go.Joins

section
variable {H : Type} {enc : TypeId × Value → H} {w : World} {base : Nat} {spare : Nat → Bool} {held : Bool}
set_option maxRecDepth 100000 in
theorem open_way {fuel : Nat} {c : Value} {z : DataW H × List MemPlace} (hf : DataW.trod enc Tryd.prog w base spare held fuel 26 [c] = some z) (hB : ∀ k ∈ z.1.weights Tryd.prog 26, k ≤ reachBytes) :
    ∃ (a0 : Option Addr) (cap : Nat) (l : List (Int × Int)), c = .slice a0 l.length cap ∧ Way w a0 l ∧ (a0 = none → cap = 0) ∧ l.length ≤ 17592186044416 := by
  rcases Go.Deep.open_slice Tryd.underlying26 hf with ⟨hcs, hx⟩ | ⟨a, len, cap, m, n, D, Pl, hcs, _, hl, hm, hmm, hx, hc⟩
  · simp only [List.cons.injEq, and_true] at hcs
    subst hcs
    exact ⟨none, 0, [], rfl, fun k x hk => (by cases hk), fun _ => rfl, by simp⟩
  · simp only [List.cons.injEq, and_true] at hcs
    subst hcs
    have hm' : len ≤ m := by rw [hmm]; split <;> omega
    have hlen : len ≤ 17592186044416 := by
      have := hB ((len + (m - len)) * 8) (by rw [hx]; simp [DataW.weights, Tryd.underlying26, Tryd.bytes24])
      simp only [reachBytes] at this
      omega
    rw [Tryd.cells24] at hc
    obtain ⟨X, hX⟩ := Go.Deep.choose_lt (α := Int × Int) (n := m) (p := fun i x => w.cell? ((a.add (i * 2)).add 0) = some (.int .i32 x.1) ∧ w.cell? ((a.add (i * 2)).add 1) = some (.int .i32 x.2) ∧ in32 x.1 ∧ in32 x.2) (fun i hi => by
      obtain ⟨cs', h1, h2⟩ := hc i hi
      obtain ⟨_, _, hcell⟩ := World.cells?_some h1
      obtain ⟨x, y, rfl, wx, wy⟩ := trod_pt h2
      exact ⟨(x, y), hcell 0 (by omega), hcell 1 (by omega), wx, wy⟩)
    refine ⟨some a, cap, (List.range len).map X, by simp, fun k x hk => ?_, fun h => (by cases h), by simpa using hlen⟩
    have hk' : k < len := by have := (List.getElem?_eq_some_iff.1 hk).1; simpa using this
    have ex : X k = x := by simpa [hk'] using hk
    obtain ⟨b, off, spot⟩ := a
    obtain ⟨c0, c1, w0, w1⟩ := hX k (by omega)
    have hspot : spot = none := by simpa [Addr.add] using World.cell?_spot (hX 0 (by omega)).1
    subst hspot
    rw [ex] at c0 c1 w0 w1
    simp only [add_none] at c0 c1
    exact ⟨b, off, rfl, c0, c1, w0, w1⟩
set_option maxRecDepth 100000 in
theorem open_ask2 {r : Reach} {b0 : Nat} {v : Value} {d : DataW H} {p : List MemPlace} (hv : Value.okWide Tryd.prog w r b0 28 v) (h : DataW.Trod enc Tryd.prog w base spare held 28 v d p) (hB : ∀ k ∈ d.weights Tryd.prog 28, k ≤ reachBytes) :
    ∃ (o : Nat) (x y u z : Int) (t0 t : Nat) (a : Option Addr) (c : Nat) (l : List (Int × Int)), v = .agg #[.int .u64 (o : Int), .int .i32 x, .int .i32 y, .int .i32 u, .int .i32 z, .int .u32 (t0 : Int), .int .u32 (t : Int), .slice a l.length c] ∧
      o < 18446744073709551616 ∧ in32 x ∧ in32 y ∧ in32 u ∧ in32 z ∧ t0 < 4294967296 ∧ t < 4294967296 ∧ Way w a l ∧ (a = none → c = 0) ∧ l.length ≤ 17592186044416 := by
  obtain ⟨cs, rfl, hsz⟩ := okWide_struct Tryd.underlying28 hv
  obtain ⟨fuel, hf⟩ := h
  obtain ⟨xs, n, _, hx, hlen, hl, hi⟩ := DataW.trod_struct Tryd.underlying28 hf
  have hl' : xs.length = 6 := hl
  have hc : cs.size = 8 := hsz.trans Tryd.cells28
  obtain ⟨cs⟩ := cs
  match cs, hc with
  | [c0, c1, c2, c3, c4, c5, c6, c7], _ =>
    match xs, hl' with
    | [y0, y1, y2, y3, y4, y5], _ =>
      have h0 := hi 0 _ rfl
      have h1 := hi 1 _ rfl
      have h2 := hi 2 _ rfl
      have h3 := hi 3 _ rfl
      have h4 := hi 4 _ rfl
      have h5 := hi 5 _ rfl
      simp [Value.cells, Tryd.cells22, Tryd.cells24, Tryd.cells25, Tryd.cells26] at h0 h1 h2 h3 h4 h5
      obtain ⟨o, e0, _, w0⟩ := DataW.trod_int Tryd.underlying22 h0
      obtain ⟨x, y, e1, wx, wy⟩ := trod_pt h1
      obtain ⟨u, z, e2, wu, wz⟩ := trod_pt h2
      obtain ⟨t0, e3, _, w3⟩ := DataW.trod_int Tryd.underlying25 h3
      obtain ⟨t, e4, _, w4⟩ := DataW.trod_int Tryd.underlying25 h4
      have hd : d = .agg [y0.1, y1.1, y2.1, y3.1, y4.1, y5.1] := (Prod.mk.inj hx).1
      rw [hd] at hB
      obtain ⟨a, c, l, rfl, hP, hn, hl2⟩ := open_way h5 (fun k hk => hB k (by
        simp only [DataW.weights, Tryd.underlying28, List.map_cons, List.map_nil, DataW.weightsEach, List.mem_append]
        simp [hk]))
      obtain ⟨o', rfl, ho⟩ := wf_u64 w0
      obtain ⟨t0', rfl, ht0⟩ := wf_u32 w3
      obtain ⟨t', rfl, ht⟩ := wf_u32 w4
      simp only [List.cons.injEq, and_true] at e0 e1 e2 e3 e4
      obtain ⟨rfl, rfl⟩ := e1
      obtain ⟨rfl, rfl⟩ := e2
      subst e0 e3 e4
      exact ⟨o', x, y, u, z, t0', t', a, c, l, rfl, ho, wx, wy, wu, wz, ht0, ht, hP, hn, hl2⟩
end
end Go.Proofs.YtgdmbcfjjdngdaaDoor

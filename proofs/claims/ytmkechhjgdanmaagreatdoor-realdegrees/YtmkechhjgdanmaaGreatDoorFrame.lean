/- What the row's condition on the library's variables gives the walks. -/
import Derived.Test.YtmkechhjgdanmaaGreatDoorLives
import Derived.Test.YtmkechhjgdanmaaGreatDoorRows
import Derived.Lib.LaidU8
import Derived.LaidMore
namespace Go.Proofs.YtmkechhjgdanmaaGreatDoor
open Go.RowKit Go.Sort Go.Lib Go.Proofs

theorem g6 : Tryz.prog.globalNamed "internal/strconv.float64info" = some 6 := by kernel_rfl
theorem t6 : (Tryz.prog.globals[6]?).map (·.type) = some 168 := by kernel_rfl
theorem g3 : Tryz.prog.globalNamed "internal/strconv.optimize" = some 3 := by kernel_rfl
theorem t3 : (Tryz.prog.globals[3]?).map (·.type) = some 4 := by kernel_rfl
theorem g10 : Tryz.prog.globalNamed "internal/strconv.float64pow10" = some 10 := by kernel_rfl
theorem t10 : (Tryz.prog.globals[10]?).map (·.type) = some 44 := by kernel_rfl
theorem g4 : Tryz.prog.globalNamed "internal/strconv.uint64pow10" = some 4 := by kernel_rfl
theorem t4 : (Tryz.prog.globals[4]?).map (·.type) = some 156 := by kernel_rfl
theorem g11 : Tryz.prog.globalNamed "internal/strconv.pow10Tab" = some 11 := by kernel_rfl
theorem t11 : (Tryz.prog.globals[11]?).map (·.type) = some 208 := by kernel_rfl
theorem c23 : Tryz.prog.cellsOf 23 = 1 := by kernel_rfl
theorem c22 : Tryz.prog.cellsOf 22 = 1 := by kernel_rfl
theorem c156 : Tryz.prog.cellsOf 156 = 20 := by kernel_rfl
theorem c207 : Tryz.prog.cellsOf 207 = 2 := by kernel_rfl
theorem c88 : Tryz.prog.cellsOf 88 = 1 := by kernel_rfl
theorem c3 : Tryz.prog.cellsOf 3 = 1 := by kernel_rfl
/-- A cell that reads as a floating-point number holds it. -/
theorem float_of {H : Type} {enc : TypeId × Value → H} {P : Program} {w : World} {base : Nat} {sp : Nat → Bool} {held : Bool} {fuel : Nat} {t : TypeId} {v : Value} {b : Nat} {q : List MemPlace} (ht : P.underlying t = some (.float .f64))
    (h : DataW.trod enc P w base sp held fuel t [v] = some (.lit (.float .f64 b), q)) : v = .float .f64 b := by
  cases fuel with
  | zero => simp [DataW.trod] at h
  | succ n =>
    unfold DataW.trod at h
    rw [ht] at h
    cases v <;> simp at h
    rename_i k x
    cases k <;> simp at h
    all_goals simp_all
set_option maxRecDepth 100000 in
theorem tab_row {W : World} {fuel : Nat} {cs : List Value} {p : List MemPlace} (h : DataW.trod (fun _ => ()) Tryz.prog W 0 (fun _ => true) false fuel 208 cs = some (Rows.laid_internal_strconv_pow10Tab, p)) :
    cs[728]? = some (.int .u64 10240000000000000000) ∧ cs[729]? = some (.int .u64 0) := by
  obtain ⟨f2, d, q, hd, hq⟩ := array_elem (ds := Pinned.pow10Rows.map fun x => .agg [.lit (.int .u64 x.1), .lit (.int .u64 x.2)]) Tryz.underlying208 h 364 (by decide)
  have e : (Pinned.pow10Rows.map fun x => (DataW.agg [.lit (.int .u64 x.1), .lit (.int .u64 x.2)] : DataW Unit))[364]? = some (.agg (([10240000000000000000, 0] : List Int).map fun z => .lit (.int .u64 z))) := by kernel_rfl
  obtain rfl := Option.some.inj (hd.symm.trans e)
  have hc := ints_of_struct Tryz.underlying207 (by
    intro i f h
    match i, h with
    | 0, h => simp at h; subst h; exact ⟨Tryz.underlying22, rfl, c22⟩
    | 1, h => simp at h; subst h; exact ⟨Tryz.underlying22, rfl, c22⟩
    | i + 2, h => simp at h) (by kernel_rfl) hq
  rw [c207] at hc
  constructor
  · have := congrArg (·[0]?) hc
    simpa [List.getElem?_take, List.getElem?_drop] using this
  · have := congrArg (·[1]?) hc
    simpa [List.getElem?_take, List.getElem?_drop] using this
theorem of_laid {W : World} (h : laidMetH Tryz.prog Rows.realOrdersRow.laid W) : LvP W ∧ LvF W ∧ TabIs Tryz.prog W "internal/strconv.uint64pow10" .u64 pow10Tab := by
  rw [MakeChecks.laidMetH_plain _ _ _ (by kernel_rfl)] at h
  have r6 : VarReads Tryz.prog W "internal/strconv.float64info" Rows.laid_internal_strconv_float64info := laidMet.reads h (by simp [Rows.realOrdersRow])
  have r3 : VarReads Tryz.prog W "internal/strconv.optimize" Rows.laid_internal_strconv_optimize := laidMet.reads h (by simp [Rows.realOrdersRow])
  have r10 : VarReads Tryz.prog W "internal/strconv.float64pow10" Rows.laid_internal_strconv_float64pow10 := laidMet.reads h (by simp [Rows.realOrdersRow])
  have r4 : VarReads Tryz.prog W "internal/strconv.uint64pow10" Rows.laid_internal_strconv_uint64pow10 := laidMet.reads h (by simp [Rows.realOrdersRow])
  have r11 : VarReads Tryz.prog W "internal/strconv.pow10Tab" Rows.laid_internal_strconv_pow10Tab := laidMet.reads h (by simp [Rows.realOrdersRow])
  have hT : TabIs Tryz.prog W "internal/strconv.uint64pow10" .u64 pow10Tab := by
    obtain ⟨g, t, cs, fuel, p, e1, e2, e3, e4⟩ := r4
    obtain rfl := Option.some.inj (g4.symm.trans e1)
    obtain rfl := Option.some.inj (t4.symm.trans e2)
    unfold TabIs
    rw [e3, ← cells_of_tab (zs := pow10Tab) Tryz.underlying156 Tryz.underlying22 c22 c156 e4]
  refine ⟨⟨?_, ?_, ?_⟩, ⟨?_, ?_, ?_⟩, hT⟩
  · obtain ⟨g, t, cs, fuel, p, e1, e2, e3, e4⟩ := r3
    obtain rfl := Option.some.inj (g3.symm.trans e1)
    obtain rfl := Option.some.inj (t3.symm.trans e2)
    obtain ⟨b, hb, hx⟩ := DataW.trod_bool Tryz.underlying4 e4
    rw [World.var?_cell g3 e3 0]
    have : b = true := by
      have := congrArg Prod.fst hx
      simpa [Rows.laid_internal_strconv_optimize] using this.symm
    subst this
    have := congrArg (·[0]?) hb
    simpa using this
  · obtain ⟨g, t, cs, fuel, p, e1, e2, e3, e4⟩ := r6
    obtain rfl := Option.some.inj (g6.symm.trans e1)
    obtain rfl := Option.some.inj (t6.symm.trans e2)
    obtain ⟨xs, n, _, hx, _, hxl, hall⟩ := DataW.trod_struct Tryz.underlying168 e4
    have h1 := hall 0 _ rfl
    rw [World.var?_cell g6 e3 0]
    have hx0 : xs[0]?.map (·.1) = some (.lit (.int .u64 52)) := by
      have := congrArg Prod.fst hx
      simp only [Rows.laid_internal_strconv_float64info, DataW.agg.injEq] at this
      have := congrArg (·[0]?) this
      simpa using this.symm
    cases hy : xs[0]? with
    | none => rw [hy] at hx0; cases hx0
    | some y =>
      rw [hy] at hx0 h1
      simp only [Option.map_some, Option.some.injEq] at hx0
      obtain ⟨z, hz, rfl, _⟩ := DataW.trod_int Tryz.underlying88 h1
      simp only [DataW.lit.injEq, Lit.int.injEq, true_and] at hx0
      subst hx0
      have := congrArg (·[0]?) hz
      simpa [List.getElem?_take, c88] using this
  · obtain ⟨g, t, cs, fuel, p, e1, e2, e3, e4⟩ := r10
    obtain rfl := Option.some.inj (g10.symm.trans e1)
    obtain rfl := Option.some.inj (t10.symm.trans e2)
    obtain ⟨⟨b, o, sp⟩, cap, hcs, _, hel⟩ := open_row Tryz.underlying44 c23 e4
    obtain ⟨v, n, q, hv, hq⟩ := hel 1 _ rfl
    have := float_of Tryz.underlying23 hq
    subst this
    refine ⟨b, o, cap, sp, ?_, ?_⟩
    · rw [World.var?_cell g10 e3 0]
      have := congrArg (·[0]?) hcs
      simpa using this
    · simpa [Addr.add] using hv
  · obtain ⟨g, t, cs, fuel, p, e1, e2, e3, e4⟩ := r11
    obtain rfl := Option.some.inj (g11.symm.trans e1)
    obtain rfl := Option.some.inj (t11.symm.trans e2)
    rw [World.var?_cell g11 e3 728]
    simpa using (tab_row e4).1
  · obtain ⟨g, t, cs, fuel, p, e1, e2, e3, e4⟩ := r11
    obtain rfl := Option.some.inj (g11.symm.trans e1)
    obtain rfl := Option.some.inj (t11.symm.trans e2)
    rw [World.var?_cell g11 e3 729]
    simpa using (tab_row e4).2
  · rw [hT.cell g4 15 (by decide)]
    rfl
end Go.Proofs.YtmkechhjgdanmaaGreatDoor

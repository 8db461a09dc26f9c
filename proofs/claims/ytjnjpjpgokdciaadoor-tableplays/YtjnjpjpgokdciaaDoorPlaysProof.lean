/- TablePlays, proved: for every two rooms and every list of steps the law returns true: each table answers every step as the document's own list of pairs does, All taken ahead tells what there was then, rising, twice, a walk left early is left, nil and zero tables answer as they should; the arguments read afterwards as they read before. Conditions: the listed package-level variable math/bits.deBruijn64tab holds its table (the row's own condition); the slice that is read has the size that a slice can have. -/
import Derived.Test.YtjnjpjpgokdciaaDoorPy
import Derived.Test.YtjnjpjpgokdciaaDoorCards
import Derived.Test.YtjnjpjpgokdciaaDoorTie
import Derived.ProofKit
import Derived.OpenShut
import Derived.Lib.SmallJoins
import Derived.Lib.LaidTab
import Derived.Deep.Slices
import Derived.Lay
import Derived.Stop.Joined
import Derived.Stop.LaidErr
import Derived.SevenTiedAt
import Derived.SizedLaws
import Derived.Carry
namespace Go.Proofs.YtjnjpjpgokdciaaDoor
open Go.ChangeShapes Go.WideShapes Go.ChangeAt Go.RowKit Go.Joins

theorem own : ownKnob Tryd.prog.godebug = none := by kernel_rfl
theorem laidOut : laidOutB Tryd.prog = true := by kernel_rfl
theorem Tryd.cells3 : Tryd.prog.cellsOf 3 = 1 := by kernel_rfl
theorem Tryd.cells22 : Tryd.prog.cellsOf 22 = 2 := by kernel_rfl
theorem Tryd.cells41 : Tryd.prog.cellsOf 41 = 5 := by kernel_rfl
theorem Tryd.bytes41 : Tryd.prog.bytesOf 41 = 32 := by kernel_rfl
theorem Tryd.cells4 : Tryd.prog.cellsOf 4 = 1 := by kernel_rfl
theorem Tryd.cells39 : Tryd.prog.cellsOf 39 = 1 := by kernel_rfl
theorem Tryd.cells5 : Tryd.prog.cellsOf 5 = 1 := by kernel_rfl
theorem Tryd.cells131 : Tryd.prog.cellsOf 131 = 64 := by kernel_rfl
theorem tab_of_tabIs {W : World} (h : Lib.TabIs Tryd.prog W "math/bits.deBruijn64tab" .u8 (Lib.deBruijn64tab.map (fun n : Nat => (n : Int)))) : Tab W := fun j hj => by
  have := h.cell (show Tryd.prog.globalNamed "math/bits.deBruijn64tab" = some 0 by kernel_rfl) j (by simpa using hj)
  rw [this]
  simp [List.getD, hj]
theorem tab_of_laid {W : World} (h : laidMetH Tryd.prog Rows.tablePlaysRow.laid W) : Tab W := by
  rw [MakeChecks.laidMetH_plain _ _ _ (by kernel_rfl)] at h
  exact tab_of_tabIs (Lib.tabIs_of_head (zs := Lib.deBruijn64tab.map (fun n : Nat => (n : Int))) (show Tryd.prog.globalNamed "math/bits.deBruijn64tab" = some 0 by kernel_rfl) (show (Tryd.prog.globals[0]?).map (·.type) = some 131 by kernel_rfl) Tryd.underlying131 Tryd.underlying5 Tryd.cells5 Tryd.cells131 h)
theorem wf_i64 {a : Int} (h : (Lit.int .i64 a).wf = true) : in64 a := by
  unfold in64
  simpa [Lit.wf, IntKind.min, IntKind.max, IntKind.signed, IntKind.bits] using h
theorem okWide_array {P : Program} {w : World} {r : Reach} {base : Nat} {t : TypeId} {v : Value} {n : Nat} {e : TypeId} (ht : P.underlying t = some (.array n e)) (h : Value.okWide P w r base t v) : ∃ cs, v = .agg cs ∧ cs.size = P.cellsOf t := by
  simp only [Value.okWide, ht] at h
  obtain ⟨cs, h1, h2, _⟩ := h
  exact ⟨cs, h1, h2⟩
theorem add_none (b off k : Nat) : (⟨b, off, none⟩ : Addr).add k = ⟨b, off + k, none⟩ := by unfold Addr.add; split <;> simp_all
theorem arr2 {α : Type} {c : Array α} (h : c.size = 2) : ∃ x y, c = #[x, y] := by
  obtain ⟨l⟩ := c
  match l, h with
  | [x, y], _ => exact ⟨x, y, rfl⟩
section
variable {H : Type} {enc : TypeId × Value → H} {w : World} {base : Nat} {spare : Nat → Bool} {held : Bool}
set_option maxRecDepth 100000 in
theorem trod_st {fuel : Nat} {cs : List Value} {z : DataW H × List MemPlace} (h : DataW.trod enc Tryd.prog w base spare held fuel 41 cs = some z) :
    ∃ d o id n a, cs = stL d o id n a := by
  obtain ⟨xs, n, _, hx, hlen, hl, hi⟩ := DataW.trod_struct Tryd.underlying41 h
  have hl' : xs.length = 5 := hl
  have hc : cs.length = 5 := hlen.trans Tryd.cells41
  match cs, hc with
  | [c0, c1, c2, c3, c4], _ =>
    match xs, hl' with
    | [y0, y1, y2, y3, y4], _ =>
      have h0 := hi 0 _ rfl
      have h1 := hi 1 _ rfl
      have h2 := hi 2 _ rfl
      have h3 := hi 3 _ rfl
      have h4 := hi 4 _ rfl
      simp [Tryd.cells3, Tryd.cells4, Tryd.cells39] at h0 h1 h2 h3 h4
      obtain ⟨d, e0, _, _⟩ := DataW.trod_int Tryd.underlying3 h0
      obtain ⟨o, e1, _⟩ := DataW.trod_bool Tryd.underlying4 h1
      obtain ⟨id, e2, _, _⟩ := DataW.trod_int Tryd.underlying39 h2
      obtain ⟨n, e3, _, _⟩ := DataW.trod_int Tryd.underlying3 h3
      obtain ⟨a, e4, _⟩ := DataW.trod_bool Tryd.underlying4 h4
      simp only [List.cons.injEq, and_true] at e0 e1 e2 e3 e4
      subst e0 e1 e2 e3 e4
      exact ⟨d, o, id, n, a, rfl⟩
set_option maxRecDepth 100000 in
theorem open_two {r : Reach} {b0 : Nat} {v : Value} {d : DataW H} {p : List MemPlace} (hv : Value.okWide Tryd.prog w r b0 22 v) (h : DataW.Trod enc Tryd.prog w base spare held 22 v d p) :
    ∃ a b, v = .agg #[.int .i64 a, .int .i64 b] := by
  obtain ⟨cs, rfl, hsz⟩ := okWide_array Tryd.underlying22 hv
  obtain ⟨c0, c1, rfl⟩ := arr2 (hsz.trans Tryd.cells22)
  obtain ⟨fuel, hf⟩ := h
  obtain ⟨xs, m, _, hx, _, hl, hi⟩ := DataW.trod_array Tryd.underlying22 hf
  match xs, hl with
  | [y0, y1], _ =>
  have h0 := hi 0 (by decide)
  have h1 := hi 1 (by decide)
  simp [Value.cells, Tryd.cells3] at h0 h1
  obtain ⟨a, e0, _, _⟩ := DataW.trod_int Tryd.underlying3 h0
  obtain ⟨b, e1, _, _⟩ := DataW.trod_int Tryd.underlying3 h1
  simp only [List.cons.injEq, and_true] at e0 e1
  subst e0 e1
  exact ⟨a, b, rfl⟩
set_option maxRecDepth 100000 in
theorem open_sts {fuel : Nat} {a0 : Option Addr} {len cap : Nat} {z : DataW H × List MemPlace} (hf : DataW.trod enc Tryd.prog w base spare held fuel 23 (Value.slice a0 len cap).cells.toList = some z) :
    ∃ l : List Stp, l.length = len ∧ Stps w a0 l ∧ (len = 0 ∨ ∃ es sp, z.1 = .slice es sp ∧ es.length = len) := by
  rcases Go.Deep.open_slice Tryd.underlying23 hf with ⟨hcs, hx⟩ | ⟨a, len', cap', m, n, D, Pl, hcs, _, hl, hm, hmm, hx, hc⟩
  · simp [Value.cells] at hcs
    obtain ⟨rfl, rfl, rfl⟩ := hcs
    exact ⟨[], rfl, fun k x hk => by simp at hk, .inl rfl⟩
  · simp [Value.cells] at hcs
    obtain ⟨rfl, rfl, rfl⟩ := hcs
    have hm' : len ≤ m := by rw [hmm]; split <;> omega
    rw [Tryd.cells41] at hc
    haveI : Inhabited Stp := ⟨⟨0, false, 0, 0, false⟩⟩
    obtain ⟨X, hX⟩ := Go.Deep.choose_lt (α := Stp) (n := m) (p := fun i x => w.cell? ((a.add (i * 5)).add 0) = some (.int .i64 x.d) ∧ w.cell? ((a.add (i * 5)).add 1) = some (.bool x.o) ∧ w.cell? ((a.add (i * 5)).add 2) = some (.int .u32 x.id) ∧ w.cell? ((a.add (i * 5)).add 3) = some (.int .i64 x.n) ∧ w.cell? ((a.add (i * 5)).add 4) = some (.bool x.a)) (fun i hi => by
      obtain ⟨cs', h1, h2⟩ := hc i hi
      obtain ⟨_, _, hcell⟩ := World.cells?_some h1
      obtain ⟨d, o, id, n, a, rfl⟩ := trod_st h2
      exact ⟨⟨d, o, id, n, a⟩, hcell 0 (by omega), hcell 1 (by omega), hcell 2 (by omega), hcell 3 (by omega), hcell 4 (by omega)⟩)
    refine ⟨(List.range len).map X, by simp, fun k x hk => ?_, .inr ⟨_, _, by rw [hx], by simp⟩⟩
    have hk' : k < len := by have := (List.getElem?_eq_some_iff.1 hk).1; simpa using this
    have ex : X k = x := by simpa [hk'] using hk
    obtain ⟨b, off, spot⟩ := a
    obtain ⟨c0, c1, c2, c3, c4⟩ := hX k (by omega)
    have hspot : spot = none := by simpa [Addr.add] using World.cell?_spot (hX 0 (by omega)).1
    subst hspot
    rw [ex] at c0 c1 c2 c3 c4
    simp only [add_none] at c0 c1 c2 c3 c4
    exact ⟨b, off, rfl, c0, c1, c2, c3, c4⟩
end

set_option maxRecDepth 100000 in
theorem plays_lifted (os : Os) (started : os.Started) (H : Type) (enc : TypeId × Value → H) :
    ReturnsInHanded {} Tryd.checked os 3 .any (fun w args => (Rows.tablePlaysSpec.pre enc Tryd.prog Tryd.f3 [] false w args ∧ laidMetH Tryd.prog Rows.tablePlaysRow.laid w) ∧ sizedMet enc Tryd.prog Tryd.f3 (OpenSpec.ofChange Rows.tablePlaysSpec) false w args)
      (Rows.tablePlaysSpec.post enc Tryd.prog Tryd.f3 false true false false) := by
  refine returnsInHanded_of_change_and (C := Tryd.checked) (X := fun w _ => laidMetH Tryd.prog Rows.tablePlaysRow.laid w) (fun _ _ _ hh h => h.of_heap hh) own started (by kernel_rfl) Tryd.func3
    (ChangeSpec.witness_shaped (enc := enc) (C := Tryd.checked) (os := os) (X := fun w _ => laidMetH Tryd.prog Rows.tablePlaysRow.laid w) false (World.laidAll Tryd.prog os Rows.tablePlaysRow.laid) #[.agg #[.int .i64 0, .int .i64 0], .slice none 0 0] 8 (World.laidAll_os _ _ _)
      (World.shaped_of_ZipB (by kernel_rfl) (by kernel_rfl)) (by kernel_rfl) (by kernel_rfl) (by kernel_rfl)
      (by rw [MakeChecks.laidMetH_plain _ _ _ (by kernel_rfl)]; exact laidMet_laidAll _ (by kernel_rfl) (by kernel_rfl))) ?_
  intro W base args ds gs before hval0 hW _ hsz0 hL _
  have hsz : (DataW.weightsEach Tryd.prog (Tryd.f3.params.toList ++ Rows.tablePlaysSpec.plain.varTypes Tryd.prog) (ds ++ gs)).all (· ≤ reachBytes) = true := hsz0
  clear hsz0
  have hval : ∀ (j : Nat) t v, Tryd.f3.params[j]? = some t → args[j]? = some v → Value.okWide Tryd.prog W .any base t v := hval0
  have hW' := hW
  obtain ⟨p, q, hA0, hV, rfl, _, _⟩ := hW
  have hA : DataW.TrodAll enc Tryd.prog W 0 (fun _ => true) true Tryd.f3.params.toList args.toList ds p := hA0
  rw [Tryd.params3] at hA hval hsz
  obtain ⟨v0, v1, d0, d1, p0, p1, rfl, rfl, rfl, h0, h1⟩ := trodAll_two hA
  obtain ⟨rfl, rfl⟩ := trodVars_none hV
  obtain ⟨x, y, rfl⟩ := open_two (hval 0 22 v0 rfl rfl) h0
  obtain ⟨a0, len, cap, rfl⟩ := okWide_slice Tryd.underlying23 (hval 1 23 v1 rfl rfl)
  clear hA0 hval0
  simp only [List.append_nil] at hW'
  have hlt : ∀ x ∈ p0 ++ p1, x.block < W.heap.size := fun x hx => by simpa using hW'.lt x hx
  have k0 : ∀ (W' : World), Below W.heap.size W W' → DataW.Trod enc Tryd.prog W' 0 (fun b => decide (b < W.heap.size)) true 22 (.agg #[.int .i64 x, .int .i64 y]) d0 p0 :=
    fun W' hn => Below.trod laidOut (by kernel_rfl) (of_decide_eq_true (by kernel_rfl)) h0 hn (fun z hz => hlt z (List.mem_append_left _ hz))
  have k1 : ∀ (W' : World), Below W.heap.size W W' → DataW.Trod enc Tryd.prog W' 0 (fun b => decide (b < W.heap.size)) true 23 (.slice a0 len cap) d1 p1 :=
    fun W' hn => Below.trod laidOut (by kernel_rfl) (of_decide_eq_true (by kernel_rfl)) h1 hn (fun z hz => hlt z (List.mem_append_right _ hz))
  obtain ⟨f0, hf⟩ := h1
  obtain ⟨l, rfl, hP, hz⟩ := open_sts hf
  have hlen : l.length ≤ 4398046511104 := by
    rcases hz with hz | ⟨es, sp, e, hl⟩
    · omega
    · simp only at e
      subst e
      have := sized_slice hsz (j := 1) (t := 23) (e := 41) rfl rfl Tryd.underlying23
      rw [Tryd.bytes41] at this
      simp only [reachBytes] at this
      omega
  refine (plays_walk x y l a0 cap W (tab_of_laid hL) hP hlen).mono fun e W' ⟨he, hb⟩ => ?_
  subst he
  exact ⟨_, rfl, _, _, _, [], _, [], hW', trodAll_mk1 (shut_bool Tryd.underlying4 _), trodAll_mk2 (k0 _ hb) (k1 _ hb), rfl, hb.frame _, fun h => by cases h⟩

theorem plays_row : Rows.TablePlaysSaid :=
  OpenClaim.holds_of_wide 3 Tryd.f3 rfl rfl rfl rfl rfl rfl rfl ⟨rfl, rfl, rfl, rfl, rfl⟩ rfl rfl rfl rfl rfl (by kernel_rfl) Tryd.func3 (by kernel_rfl)
    (of_decide_eq_true (by kernel_rfl)) (by unfold Func.isWrapper; first | (rw [if_pos (by decide +kernel)]; kernel_rfl) | (rw [if_neg (by decide +kernel)]; exact ⟨rfl, rfl⟩))
    (fun os started H enc _ => plays_lifted os started H enc)

theorem plain (f : FuncId) (fn : Func) (hf : Tryd.pinned.checked.prog.funcNamed "paddock/paddocklaw17.TablePlays" = some f) (hfn : Tryd.pinned.checked.prog.funcs[f]? = some fn) :
    false = Tryd.pinned.checked.prog.looks [] ∧ ∀ (j : Nat) t, fn.params[j]? = some t → Tryd.pinned.checked.prog.wantsStandIn t = false := by
  obtain rfl : f = 3 := Option.some.inj ((show Tryd.prog.funcNamed "paddock/paddocklaw17.TablePlays" = some 3 by kernel_rfl).symm.trans hf) |>.symm
  obtain rfl : fn = Tryd.f3 := (Option.some.inj (Tryd.func3.symm.trans hfn)).symm
  refine ⟨by kernel_rfl, fun j t ht => ?_⟩
  rw [Tryd.params3] at ht
  have hm : t ∈ [22, 23] := by simpa using Array.mem_of_getElem? ht
  have hall : ([22, 23].all fun u => !Tryd.prog.wantsStandIn u) = true := by kernel_rfl
  exact (show Tryd.prog.wantsStandIn t = false by simpa using List.all_eq_true.1 hall t hm)

theorem plays_holds : Rows.TablePlaysCardSaid :=
  Claim7.holds_tied_plain_at .later [] _ _ _ _ plays_row (fun _ h => by cases h) (by kernel_rfl) (fun _ h => by cases h) tablePlays_row_tie rfl ⟨rfl, rfl⟩ (by kernel_rfl) rfl plain (by kernel_rfl)
end Go.Proofs.YtjnjpjpgokdciaaDoor

/- WireTurned, proved: for every body, every place, every four bytes and either choice the law returns true: a body too long is refused, a frame around a body is opened to that body, and a frame in which one byte, or up to four of the body's bytes beside one another, are others is refused; a number is laid and taken and a frame opened besides; the argument reads afterwards as it read before. Conditions: the listed package-level variable of the program holds what the card ties it to. -/
import Derived.Test.YtomklacjaadcaaaDoorTurnV
import Derived.Test.YtomklacjaadcaaaDoorCards
import Derived.Test.YtomklacjaadcaaaDoorTie
import Derived.ProofKit
import Derived.OpenShut
import Derived.Lib.SmallJoins
import Derived.Lay
import Derived.LaidMore
import Derived.Lib.LaidU8
import Derived.Stop.Joined
import Derived.SevenTiedAt
import Derived.SizedLaws
import Derived.ChangeSlices
import Derived.Carry
namespace Go.Proofs.YtomklacjaadcaaaDoor
open Go.ChangeShapes Go.WideShapes Go.ChangeAt Go.RowKit Go.Joins Go.Lib

theorem own : ownKnob Tryd.prog.godebug = none := by kernel_rfl
theorem laidOut : laidOutB Tryd.prog = true := by kernel_rfl
theorem cells5 : Tryd.prog.cellsOf 5 = 1 := by kernel_rfl
theorem bytes5 : Tryd.prog.bytesOf 5 = 1 := by kernel_rfl
theorem cells66 : Tryd.prog.cellsOf 66 = 1 := by kernel_rfl
theorem cells137 : Tryd.prog.cellsOf 137 = 16 := by kernel_rfl
theorem tRem : (Tryd.prog.globals[1]?).map (·.type) = some 137 := by kernel_rfl
theorem wf_u8 {a : Int} (h : (Lit.int .u8 a).wf = true) : 0 ≤ a ∧ a ≤ 255 := by
  simpa [Lit.wf, IntKind.min, IntKind.max, IntKind.signed, IntKind.bits] using h
def remZ : List Int := [0, 498536548, 997073096, 651767980, 1994146192, 1802195444, 1303535960, 1342533948, 3988292384, 4027552580, 3604390888, 3412177804, 2607071920, 2262029012, 2685067896, 3183342108]
/-- What the row's condition on the table gives the walks. -/
theorem rem_laid {W : World} (h : laidMetH Tryd.prog Rows.wireTurnedRow.laid W) : RemIs W := by
  rw [MakeChecks.laidMetH_plain _ _ _ (by kernel_rfl)] at h
  have r : VarReads Tryd.prog W "paddock/wire.remainders" Rows.laid_paddock_wire_remainders := laidMet.reads h (by simp [Rows.wireTurnedRow])
  obtain ⟨g, t, cs, fuel, p, e1, e2, e3, e4⟩ := r
  obtain rfl := Option.some.inj (gRem.symm.trans e1)
  obtain rfl := Option.some.inj (tRem.symm.trans e2)
  have hT : Lib.TabIs Tryd.prog W "paddock/wire.remainders" .u32 remZ := by
    unfold Lib.TabIs
    rw [e3, ← Lib.cells_of_tab (zs := remZ) Tryd.underlying137 Tryd.underlying66 cells66 cells137 e4]
  intro i hi
  rw [hT.cell gRem i hi]
  have : ∀ i : Fin 16, remZ.getD i.1 0 = ((rem.getD i.1 0 : Nat) : Int) := by decide
  rw [this ⟨i, hi⟩]
theorem u8_of {z : Int} (h : 0 ≤ z ∧ z ≤ 255) : (((UInt8.ofNat z.toNat).toNat : Nat) : Int) = z := by
  have : (UInt8.ofNat z.toNat).toNat = z.toNat % 256 := by simp
  rw [this]; omega
/-- A slice of bytes, opened. -/
theorem open_by {H : Type} {enc : TypeId × Value → H} {W : World} {fuel : Nat} {cs : List Value} {d : DataW H} {p : List MemPlace} (h : DataW.trod enc Tryd.prog W 0 (fun _ => true) true fuel 31 cs = some (d, p)) :
    ∃ ao cap l, cs = [.slice ao l.length cap] ∧ By W ao l ∧ l.length ≤ cap ∧ (ao = none → l = [] ∧ cap = 0) ∧ ((DataW.weightsEach Tryd.prog [31] [d]).all (· ≤ reachBytes) = true → l.length ≤ 140737488351232) := by
  rcases open_ints Tryd.underlying31 Tryd.underlying5 cells5 h with ⟨rfl, _⟩ | ⟨a, len, cap, zs, rfl, _, hl, hm, hz, hx, hcell, hwz⟩
  · exact ⟨none, 0, [], rfl, fun i hi => (by simp at hi), by simp, fun _ => ⟨rfl, rfl⟩, fun _ => by simp⟩
  · simp only [Prod.mk.injEq] at hx
    obtain ⟨rfl, rfl⟩ := hx
    simp only [if_true] at hz
    have hlen : ((zs.take len).map fun z => UInt8.ofNat z.toNat).length = len := by rw [List.length_map, List.length_take]; omega
    refine ⟨some a, cap, (zs.take len).map fun z => UInt8.ofNat z.toNat, by rw [hlen], fun i hi => ?_, by omega, fun e => (by cases e), fun hw => ?_⟩
    · rw [hlen] at hi
      obtain ⟨b, off, spot⟩ := a
      have hspot : spot = none := by simpa [Addr.add] using World.cell?_spot (hcell 0 (by omega))
      subst hspot
      refine ⟨b, off, rfl, ?_⟩
      have hm : zs.getD i 0 ∈ zs := by
        rw [List.getD_eq_getElem?_getD, List.getElem?_eq_getElem (by omega)]
        exact List.getElem_mem _
      have e : ((zs.take len).map fun z => UInt8.ofNat z.toNat).getD i 0 = UInt8.ofNat (zs.getD i 0).toNat := by
        simp [List.getD, hi, show i < zs.length by omega]
      rw [e, u8_of (wf_u8 (hwz _ hm)), ← Addr.add_lit]
      exact hcell i (by omega)
    · rw [hlen]
      have := sized_slice (P := Tryd.prog) (ts := [31]) (j := 0) (t := 31) (e := 5) hw rfl rfl Tryd.underlying31
      rw [bytes5] at this
      simp only [lits, List.length_map, List.length_take, List.length_drop, reachBytes] at this
      omega
theorem cells7 : Tryd.prog.cellsOf 78 = 7 := by kernel_rfl
theorem cells31 : Tryd.prog.cellsOf 31 = 1 := by kernel_rfl
theorem cells3 : Tryd.prog.cellsOf 3 = 1 := by kernel_rfl
theorem cells4 : Tryd.prog.cellsOf 4 = 1 := by kernel_rfl
theorem cells76 : Tryd.prog.cellsOf 76 = 4 := by kernel_rfl

set_option maxRecDepth 100000 in
theorem open_turn {H : Type} {enc : TypeId × Value → H} {W : World} {base : Nat} {v : Value} {d : DataW H} {p : List MemPlace} (hv : Value.okWide Tryd.prog W .any base 78 v) (h : DataW.Trod enc Tryd.prog W 0 (fun _ => true) true 78 v d p) (hw : (DataW.weightsEach Tryd.prog [78] [d]).all (· ≤ reachBytes) = true) :
    ∃ ao cap l At y0 y1 y2 y3 four, v = .agg #[.slice ao (List.length l) cap, .int .i64 At, .int .u8 (UInt8.toNat y0 : Nat), .int .u8 (UInt8.toNat y1 : Nat), .int .u8 (UInt8.toNat y2 : Nat), .int .u8 (UInt8.toNat y3 : Nat), .bool four] ∧ By W ao l ∧ (ao = none → l = [] ∧ cap = 0) ∧ l.length ≤ 140737488351232 := by
  obtain ⟨cs, rfl, hcs⟩ := okWide_struct Tryd.underlying78 hv
  rw [cells7] at hcs
  obtain ⟨fuel, hf⟩ := h
  obtain ⟨xs, n, _, hx, hl, hxl, hall⟩ := DataW.trod_struct Tryd.underlying78 hf
  match cs, hcs with
  | ⟨[c0, c1, c2, c3, c4, c5, c6]⟩, _ =>
  match xs, hxl with
  | [x0, x1, x2, x3], _ =>
  simp only [Prod.mk.injEq] at hx
  obtain ⟨rfl, _⟩ := hx
  have h0 := hall 0 _ rfl
  have h1 := hall 1 _ rfl
  have h2 := hall 2 _ rfl
  have h3 := hall 3 _ rfl
  simp [Value.cells, cells31, cells3, cells4, cells76] at h0 h1 h2 h3
  obtain ⟨y, x, b, m, hx0⟩ : ∃ y x b m, x0 = (y, x) ∧ x3 = (b, m) := ⟨_, _, _, _, rfl, rfl⟩
  obtain ⟨rfl, rfl⟩ := hx0
  obtain ⟨ao, cap, l, e0, hby, _, hn0, hsz⟩ := open_by h0
  obtain ⟨At, e1, _, _⟩ := DataW.trod_int Tryd.underlying3 h1
  obtain ⟨four, e3, _⟩ := DataW.trod_bool Tryd.underlying4 h3
  obtain ⟨zs, k, _, hz2, _, hzl, hz⟩ := DataW.trod_array Tryd.underlying76 h2
  match zs, hzl with
  | [z0, z1, z2, z3], _ =>
  have q0 := hz 0 (by decide)
  have q1 := hz 1 (by decide)
  have q2 := hz 2 (by decide)
  have q3 := hz 3 (by decide)
  simp [cells5] at q0 q1 q2 q3
  obtain ⟨a0, f0, _, w0⟩ := DataW.trod_int Tryd.underlying5 q0
  obtain ⟨a1, f1, _, w1⟩ := DataW.trod_int Tryd.underlying5 q1
  obtain ⟨a2, f2, _, w2⟩ := DataW.trod_int Tryd.underlying5 q2
  obtain ⟨a3, f3, _, w3⟩ := DataW.trod_int Tryd.underlying5 q3
  simp only [List.cons.injEq, and_true] at e0 e1 e3 f0 f1 f2 f3
  subst e0 e1 e3 f0 f1 f2 f3
  refine ⟨ao, cap, l, At, UInt8.ofNat a0.toNat, UInt8.ofNat a1.toNat, UInt8.ofNat a2.toNat, UInt8.ofNat a3.toNat, four, ?_, hby, hn0, hsz ?_⟩
  · rw [u8_of (wf_u8 w0), u8_of (wf_u8 w1), u8_of (wf_u8 w2), u8_of (wf_u8 w3)]
  · refine List.all_eq_true.2 fun n hn => List.all_eq_true.1 hw n ?_
    have hn' : n ∈ DataW.weights Tryd.prog 31 y := by simpa [DataW.weightsEach] using hn
    have := DataW.weights_mem_each (P := Tryd.prog) (ts := [31, 3, 76, 4]) (ds := [y, x1.1, x2.1, b]) (j := 0) rfl rfl n hn'
    refine DataW.weights_mem_each (P := Tryd.prog) (ts := [78]) (j := 0) (t := 78) (d := .agg [y, x1.1, x2.1, b]) rfl rfl n ?_
    unfold DataW.weights
    rw [Tryd.underlying78]
    exact this

set_option maxRecDepth 100000 in
theorem turned_lifted (os : Os) (started : os.Started) (H : Type) (enc : TypeId × Value → H) :
    ReturnsInHanded {} Tryd.checked os 8 .any (fun w args => (Rows.wireTurnedSpec.pre enc Tryd.prog Tryd.f8 [] false w args ∧ laidMetH Tryd.prog Rows.wireTurnedRow.laid w) ∧ sizedMet enc Tryd.prog Tryd.f8 (OpenSpec.ofChange Rows.wireTurnedSpec) false w args)
      (Rows.wireTurnedSpec.post enc Tryd.prog Tryd.f8 false true false false) := by
  refine returnsInHanded_of_change_and (C := Tryd.checked) (X := fun w _ => laidMetH Tryd.prog Rows.wireTurnedRow.laid w) (fun _ _ _ hh h => h.of_heap hh) own started (by kernel_rfl) Tryd.func8
    (ChangeSpec.witness_shaped (enc := enc) (C := Tryd.checked) (os := os) (X := fun w _ => laidMetH Tryd.prog Rows.wireTurnedRow.laid w) false (World.laidAll Tryd.prog os Rows.wireTurnedRow.laid) #[.agg #[.slice none 0 0, .int .i64 0, .int .u8 0, .int .u8 0, .int .u8 0, .int .u8 0, .bool false]] 8 (World.laidAll_os _ _ _)
      (World.shaped_of_ZipB (by kernel_rfl) (by kernel_rfl)) (by kernel_rfl) (by kernel_rfl) (by kernel_rfl)
      (by rw [MakeChecks.laidMetH_plain _ _ _ (by kernel_rfl)]; exact laidMet_laidAll _ (by kernel_rfl) (by kernel_rfl))) ?_
  intro W base args ds gs before hval0 hW _ hsz0 hL _
  have hsz : (DataW.weightsEach Tryd.prog (Tryd.f8.params.toList ++ Rows.wireTurnedSpec.plain.varTypes Tryd.prog) (ds ++ gs)).all (· ≤ reachBytes) = true := hsz0
  clear hsz0
  have hval : ∀ (j : Nat) t v, Tryd.f8.params[j]? = some t → args[j]? = some v → Value.okWide Tryd.prog W .any base t v := hval0
  have hW' := hW
  obtain ⟨p, q, hA0, hV, rfl, _, _⟩ := hW
  have hA : DataW.TrodAll enc Tryd.prog W 0 (fun _ => true) true Tryd.f8.params.toList args.toList ds p := hA0
  rw [Tryd.params8] at hA hval hsz
  obtain ⟨v0, d0, rfl, rfl, h0⟩ := trodAll_one hA
  obtain ⟨rfl, rfl⟩ := trodVars_none hV
  have h0k := h0
  clear hA0 hval0
  simp only [List.append_nil] at hW'
  have hlt : ∀ x ∈ p, x.block < W.heap.size := fun x hx => by simpa using hW'.lt x hx
  have hargs : ∀ (W' : World), Below W.heap.size W W' → DataW.Trod enc Tryd.prog W' 0 (fun b => decide (b < W.heap.size)) true 78 v0 d0 p :=
    fun W' hn => Below.trod laidOut (by kernel_rfl) (of_decide_eq_true (by kernel_rfl)) h0k hn hlt
  have hR := rem_laid hL
  obtain ⟨ao, cap, l, At, y0, y1, y2, y3, four, rfl, hby, hn0, hlen⟩ := open_turn (hval 0 78 v0 rfl rfl) h0k hsz
  refine (turned_any ao cap l At y0 y1 y2 y3 four W hlen hn0 hby hR).mono fun e W' ⟨he, hb⟩ => ?_
  subst he
  exact ⟨_, rfl, _, _, _, [], _, [], hW', trodAll_mk1 (shut_bool Tryd.underlying4 _), trodAll_mk1 (hargs _ hb), rfl, hb.frame _, fun h => by cases h⟩

theorem turned_row : Rows.WireTurnedSaid :=
  OpenClaim.holds_of_wide 8 Tryd.f8 rfl rfl rfl rfl rfl rfl rfl ⟨rfl, rfl, rfl, rfl, rfl⟩ rfl rfl rfl rfl rfl (by kernel_rfl) Tryd.func8 (by kernel_rfl)
    (of_decide_eq_true (by kernel_rfl)) (by unfold Func.isWrapper; first | (rw [if_pos (by decide +kernel)]; kernel_rfl) | (rw [if_neg (by decide +kernel)]; exact ⟨rfl, rfl⟩))
    (fun os started H enc _ => turned_lifted os started H enc)

theorem plain (f : FuncId) (fn : Func) (hf : Tryd.pinned.checked.prog.funcNamed "paddock/paddocklaw03.WireTurned" = some f) (hfn : Tryd.pinned.checked.prog.funcs[f]? = some fn) :
    false = Tryd.pinned.checked.prog.looks [] ∧ ∀ (j : Nat) t, fn.params[j]? = some t → Tryd.pinned.checked.prog.wantsStandIn t = false := by
  obtain rfl : f = 8 := Option.some.inj ((show Tryd.prog.funcNamed "paddock/paddocklaw03.WireTurned" = some 8 by kernel_rfl).symm.trans hf) |>.symm
  obtain rfl : fn = Tryd.f8 := (Option.some.inj (Tryd.func8.symm.trans hfn)).symm
  refine ⟨by kernel_rfl, fun j t ht => ?_⟩
  rw [Tryd.params8] at ht
  have hm : t ∈ [78] := by simpa using Array.mem_of_getElem? ht
  have hall : ([78].all fun u => !Tryd.prog.wantsStandIn u) = true := by kernel_rfl
  exact (show Tryd.prog.wantsStandIn t = false by simpa using List.all_eq_true.1 hall t hm)

theorem turned_holds : Rows.WireTurnedCardSaid :=
  Claim7.holds_tied_plain_at .later [] _ _ _ _ turned_row (fun _ h => by cases h) (by kernel_rfl) (fun _ h => by cases h) wireTurned_row_tie rfl ⟨rfl, rfl⟩ (by kernel_rfl) rfl plain (by kernel_rfl)
end Go.Proofs.YtomklacjaadcaaaDoor

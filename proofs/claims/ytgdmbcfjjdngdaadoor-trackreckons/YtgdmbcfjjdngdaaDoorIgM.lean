/- slices.Insert of one row where there is no room. -/
import Derived.Test.YtgdmbcfjjdngdaaDoorInM
import Derived.Lib.AppendZerosOnto
import Derived.Laws.NewBlocks
set_option linter.unusedSimpArgs false
set_option linter.unusedVariables false
namespace Go.Proofs.YtgdmbcfjjdngdaaDoor.TM
open Go.RowKit Go.Sort Go.Shelf Go.Lib

theorem zeroCells_len (n : Nat) : (Builtin.zeroCells (Value.pointer none).cells n).size = n := by simp [Builtin.zeroCells, Value.cells]
theorem splice2 (A R M : List Value) (p : Value) (i : Nat) (hA : A.length = i) : (A ++ [p] ++ R.drop (i + 1)).take (i + 1) ++ M ++ (A ++ [p] ++ R.drop (i + 1)).drop (i + 1 + M.length) = A ++ p :: M ++ R.drop (i + 1 + M.length) := by
  have h1 : (A ++ [p]).length = i + 1 := by simp [hA]
  rw [List.take_append_of_le_length (by omega), List.take_of_length_le (by omega), List.drop_append, List.drop_eq_nil_of_le (by omega), List.drop_drop, h1, List.nil_append, show i + 1 + (i + 1 + M.length - (i + 1)) = i + 1 + M.length by omega]
  simp
theorem drew_heap (b : Nat) : ∀ (vs : List Value) (o : Nat) (V : World), (V.drew.setCells b o vs).heap = (V.setCells b o vs).heap
  | [], o, V => rfl
  | u :: r, o, V => drew_heap b r (o + 1) (V.setCell ⟨b, o, none⟩ u)
set_option maxRecDepth 100000 in
set_option maxHeartbeats 4000000 in
theorem insert_grow (B g cp i vb nb : Nat) (L : List En) (w : World) (hR : RowG w g cp L) (hB : B ≤ w.heap.size) (hi : i < L.length) (hc : cp < L.length + 1) (hl : L.length ≤ 65536) (hv : Bk w vb 131 [pT nb]) :
    Calls Tryd.prog 83 #[.slice (some ⟨g, 0, none⟩) L.length cp, .int .i64 (i : Int), .slice (some ⟨vb, 0, none⟩) 1 1] w (InsR B (.slice (some ⟨g, 0, none⟩) L.length cp) L i nb w) := by
  obtain ⟨i0, hi0, hz0, hz1, hz2⟩ := info_parts p_info
  have hsz : (Tryd.prog.info? 131).map (·.size) = some 1 := by rw [hi0]; simp [hz1]
  have hcL : cp = L.length := by have := hR.le.1; omega
  have hgw := hR.lt
  obtain ⟨rest, kR, hlen, hml⟩ := hR
  have hrest : rest = [] := List.eq_nil_of_length_eq_zero (by omega)
  subst hrest
  subst hcL
  rw [List.append_nil] at kR
  have hpl := pts_len L
  have hold : (Builtin.firstCells i0.size i (.slice (some ⟨g, 0, none⟩) i L.length)).run Tryd.prog w.drew = .ok ((pts L).take i).toArray w.drew := by
    rw [hz1]
    exact run_firstCells_some w.drew 1 i ⟨g, 0, none⟩ i L.length ((pts L).take i) (by rw [List.length_take]; omega) (fun j u hj => by
      rw [Addr.add_lit, Nat.zero_add, (kR.gr (Gr.refl w).drew).at]
      rw [List.getElem?_take] at hj
      split at hj
      · exact hj
      · cases hj)
  have hrz : ∀ ty, ∃ (G : Nat) (ROW : List Value), L.length + 1 ≤ G ∧ G ≤ maxLen ∧ ROW.length = G ∧ ROW.take i = (pts L).take i ∧
      (Builtin.append_ #[110, 3] ty #[.slice (some ⟨g, 0, none⟩) i L.length, .int .i64 ((L.length : Int) + 1 - (i : Int))]).run Tryd.prog w = .ok (.slice (some ⟨w.heap.size, 0, none⟩) (L.length + 1) G) (w.drew.alloc (.cells ROW.toArray 131)) := fun ty => by
    have h := Lib.run_append_grow_zeros w 110 3 ty 131 i0 _ .i64 .i64 Tryd.underlying110 Tryd.underlying3 hi0 hz0 (some ⟨g, 0, none⟩) i L.length ((pts L).take i) hold (L.length + 1 - i) (by omega) (by omega) (by omega) (by omega) (by rw [hz2]; omega) (by rw [hz2, show i + (L.length + 1 - i) = L.length + 1 by omega]; exact growslice_fits (by omega) (by omega))
    rw [show i + (L.length + 1 - i) = L.length + 1 by omega] at h
    refine ⟨grownCap w (L.length + 1) L.length 131, (pts L).take i ++ (Builtin.zeroCells (Value.pointer none).cells (L.length + 1 - i)).toList ++ (Builtin.zeroCells (Value.pointer none).cells (grownCap w (L.length + 1) L.length 131 - (L.length + 1))).toList, grownCap_ge w _ _ _, grownCap_le_maxLen w _ _ _ (by unfold maxLen; omega), ?_, ?_, ?_⟩
    · have := grownCap_ge w (L.length + 1) L.length 131
      simp only [List.length_append, List.length_take, Array.length_toList, zeroCells_len, hpl]
      omega
    · rw [List.append_assoc, List.take_append_of_le_length (by simp [hpl]; omega), List.take_take, Nat.min_self]
    · rw [show (L.length : Int) + 1 - (i : Int) = ((L.length + 1 - i : Nat) : Int) by omega, h]
      congr 4
      simp
  obtain ⟨G, ROW, hG1, hG2, hRl, hRt, hrun⟩ := hrz 110
  have gA : Gr w (w.drew.alloc (.cells ROW.toArray 131)) := (Gr.refl w).drew.alloc _
  have kN : Bk (w.drew.alloc (.cells ROW.toArray 131)) w.heap.size 131 ROW := Bk.new w.drew 131 ROW
  generalize hW1 : w.drew.alloc (.cells ROW.toArray 131) = W1 at *
  have hvw : vb ≠ w.heap.size := by have := hv.lt; omega
  have hgN : g ≠ w.heap.size := by omega
  have kv := hv.gr gA
  have kg := kR.gr gA
  have kA : Bk (W1.setCells w.heap.size i [pT nb]) w.heap.size 131 (ROW.take i ++ [pT nb] ++ ROW.drop (i + 1)) := Bk.setCells [pT nb] i W1 ROW kN (by simp; omega)
  have hmov : ((pts L).drop i).length = L.length - i := by rw [List.length_drop, hpl]
  have kB : Bk ((W1.setCells w.heap.size i [pT nb]).setCells w.heap.size (i + 1) ((pts L).drop i)) w.heap.size 131 ((pts L).take i ++ pT nb :: (pts L).drop i ++ ROW.drop (L.length + 1)) := by
    have := Bk.setCells ((pts L).drop i) (i + 1) _ _ kA (by simp [hpl]; omega)
    have e := splice2 (ROW.take i) ROW ((pts L).drop i) (pT nb) i (by simp; omega)
    rw [hRt, hmov, show i + 1 + (L.length - i) = L.length + 1 by omega] at e
    rw [hRt, hmov, show i + 1 + (L.length - i) = L.length + 1 by omega] at this
    rw [e] at this
    exact this
  have hcpA : ∀ (W : World), (∀ x, W.cell? x = W1.cell? x) → (∀ x, W.frozen? x = W1.frozen? x) → ∀ ty dc, (Builtin.copy_ #[110, 110] ty #[.slice (some ⟨w.heap.size, i, none⟩) (L.length + 1 - i) dc, .slice (some ⟨vb, 0, none⟩) 1 1]).run Tryd.prog W = .ok (goInt [pT nb].length) (W.setCells w.heap.size i [pT nb]) := fun W hWc hWf ty dc =>
    run_copy_cells W _ _ ty 131 w.heap.size i _ dc ⟨vb, 0, none⟩ 1 1 [pT nb] Tryd.underlying110 hsz (by simp only [Nat.min_def, List.length_singleton]; split <;> omega)
      (fun j u hj => by rw [Addr.add_lit, Nat.zero_add, hWc, kv.at]; exact hj)
      (fun j hj => by rw [hWc, kN.at, List.getElem?_eq_getElem (by simp at hj; omega)]; rfl) (fun j hj => by rw [hWf]; exact kN.frozen _) (by simp [Value.oneCell'])
  have hcpB : ∀ (W : World), (∀ x, W.cell? x = (W1.setCells w.heap.size i [pT nb]).cell? x) → (∀ x, W.frozen? x = (W1.setCells w.heap.size i [pT nb]).frozen? x) → ∀ ty dc sc, (Builtin.copy_ #[110, 110] ty #[.slice (some ⟨w.heap.size, i + 1, none⟩) (L.length - i) dc, .slice (some ⟨g, i, none⟩) (L.length - i) sc]).run Tryd.prog W = .ok (goInt ((pts L).drop i).length) (W.setCells w.heap.size (i + 1) ((pts L).drop i)) := fun W hWc hWf ty dc sc =>
    run_copy_cells W _ _ ty 131 w.heap.size (i + 1) _ dc ⟨g, i, none⟩ _ sc ((pts L).drop i) Tryd.underlying110 hsz (by rw [hmov]; simp only [Nat.min_def]; split <;> omega)
      (fun j u hj => by
        rw [Addr.add_lit, hWc, (kg.same (setCells_other hgN [pT nb] i W1)).at]
        rwa [List.getElem?_drop] at hj)
      (fun j hj => by rw [hWc, kA.at, List.getElem?_eq_getElem (by rw [hmov] at hj; simp; omega)]; rfl)
      (fun j hj => by rw [hWf]; exact kA.frozen _) (fun u hu => pts_one L u (List.mem_of_mem_drop hu))
  have C : Hid (∀ W, (W = (W1.setCells w.heap.size i [pT nb]).drew.setCells w.heap.size (i + 1) ((pts L).drop i)) → Chg (fun k => (Value.slice (some ⟨g, 0, none⟩) L.length L.length).ownBlock = some k) w W) := by
    rintro W rfl
    have g1 : Gr w (((W1.setCells w.heap.size i [pT nb]).drew.setCells w.heap.size (i + 1) ((pts L).drop i))) := by
      have s1 : ∀ (vs : List Value) (o : Nat) (V : World), Gr w V → Gr w (V.setCells w.heap.size o vs) := by
        intro vs
        induction vs with
        | nil => intro o V h; exact h
        | cons u r ih => intro o V h; exact ih _ _ (h.setCell (Nat.le_refl _) _)
      exact s1 _ _ _ ((s1 _ _ _ gA).drew)
    exact Chg.of_gr g1
  have F : Hid (∀ W, (W = (W1.setCells w.heap.size i [pT nb]).drew.setCells w.heap.size (i + 1) ((pts L).drop i)) → ∀ x : En, x.2.2 = nb → RowG W w.heap.size G (ins L i x)) := by
    rintro W rfl x hx
    refine ⟨ROW.drop (L.length + 1), ?_, ?_, hG2⟩
    · rw [pts_ins, hx]
      refine kB.same ?_
      exact congrArg (fun h => h[w.heap.size]?) (drew_heap w.heap.size ((pts L).drop i) (i + 1) _)
    · rw [ins_len L i x (by omega), List.length_drop]; omega
  have hF1 : ∀ x, ((W1.setCells w.heap.size i [pT nb]).drew).cell? x = (W1.setCells w.heap.size i [pT nb]).cell? x := fun x => rfl
  have hF2 : ∀ x, ((W1.setCells w.heap.size i [pT nb]).drew).frozen? x = (W1.setCells w.heap.size i [pT nb]).frozen? x := fun x => rfl
  clear kB kA kN kv kg kR hv hmov hold hrz hRt
  have hN : Hid (B ≤ w.heap.size) := hB
  generalize hn : L.length = n at *
  have HN := hid0 hn
  clear hn
  have hG63 : G ≤ 9223372036854775807 := by unfold maxLen at hG2; omega
  have hGi : ¬ (G = i) := by omega
  have hGim : ¬ (G = i + 1) := by omega
  have hci : ¬ (n = i) := by omega
  have hw1 : IntKind.i64.wrap ((i : Int) + 1) = (i : Int) + 1 := by rw [IntKind.wrap_i64]; omega
  have hb1 : (0 : Int) ≤ (i : Int) + 1 := by omega
  have hin : i ≤ n := by omega
  have hz2 : ¬ ((i : Int) = (n : Int)) := by omega
  have hz3 : (n : Int) < (n : Int) + 1 := by omega
  have htn : ((i : Int) + 1).toNat = i + 1 := by omega
  have hb3 : (i : Int) ≤ (n : Int) := by omega
  have mixed : Tryd.prog.follows .mixedOrders = true := by kernel_rfl
  clear hG1 hG2 hc
  go_enter Tryd.func83, Tryd.ntmps83
  go_wp2_with (first
    | (at_builtin; refine Lib.wpList_append_run _ rfl _ _ _ _ rfl _ _ rfl rfl _ _ hrun ?_)
    | (at_builtin; refine wpList_copy_runI _ rfl _ _ 110 110 rfl _ _ rfl rfl (hcpA _ (fun _ => rfl) (fun _ => rfl) _ _) ?_))
  go_region_law_o (refine step_copy_runI rfl _ _ 110 110 rfl (.slice (some ⟨w.heap.size, i + 1, none⟩) (n - i) (G - (i + 1))) (.slice (some ⟨g, i, none⟩) (n - i) (n - i)) (by simp [Act.eval, Act.put]) (by simp [Act.eval, Act.put]) (hcpB _ hF1 hF2 3 (G - (i + 1)) (n - i)) ?_)
  go_wp2
  go_ret
  exact ⟨w.heap.size, G, by rw [HN.out]; rfl, hN.out, F.out _ rfl, C.out _ rfl, .inr (Nat.le_refl _)⟩
theorem insert_any (B vb nb i : Nat) (v : Value) (L : List En) (w : World) (hs : Sl B w v L) (hB : B ≤ w.heap.size) (hi : i ≤ L.length) (hl : L.length ≤ 65536) (hv : Bk w vb 131 [pT nb]) (hvb : ∀ g, v.ownBlock = some g → vb ≠ g) :
    Calls Tryd.prog 83 #[v, .int .i64 (i : Int), .slice (some ⟨vb, 0, none⟩) 1 1] w (InsR B v L i nb w) := by
  by_cases he : i = L.length
  · subst he
    exact insert_end B vb nb v L w hs hB hl hv
  · rcases hs with ⟨rfl, rfl⟩ | ⟨g, cp, rfl, hBg, hR⟩
    · simp at hi he; omega
    · by_cases hc : cp < L.length + 1
      · exact insert_grow B g cp i vb nb L w hR hB (by omega) hc hl hv
      · exact insert_shift B g cp i vb nb L w hR hBg (by omega) (by omega) hl hv (hvb g rfl)
end Go.Proofs.YtgdmbcfjjdngdaaDoor.TM

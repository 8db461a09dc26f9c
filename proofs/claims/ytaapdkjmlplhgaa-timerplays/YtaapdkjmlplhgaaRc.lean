/- The document's own Cut. -/
import Derived.Test.YtaapdkjmlplhgaaRs2
set_option linter.unusedSimpArgs false
set_option linter.unusedVariables false
namespace Go.Proofs.Ytaapdkjmlplhgaa
open Go.RowKit Go.Sort Go.Shelf

/-- Whether a cut reaches it. -/
def hit (o : Int) (ba : Bool) (f : Int) (bf : Bool) (y : Du) : Bool := (ba || decide (y.2.1 = o)) && (bf || decide (y.2.2 = f))
def cutL (o : Int) (ba : Bool) (f : Int) (bf : Bool) (L : List Du) : List Du := L.filter (fun y => !hit o ba f bf y)
theorem cutL_take {o f : Int} {ba bf : Bool} {L : List Du} {k : Nat} (hk : k < L.length) : cutL o ba f bf (L.take (k + 1)) = cutL o ba f bf (L.take k) ++ (if hit o ba f bf (nth L k) then [] else [nth L k]) := by
  have e : L.take (k + 1) = L.take k ++ [nth L k] := by
    rw [List.take_add_one, List.getElem?_eq_getElem hk]
    simp [nth, List.getD, List.getElem?_eq_getElem hk]
  unfold cutL
  rw [e, List.filter_append]
  generalize nth L k = y
  cases h : hit o ba f bf y <;> simp [h]
theorem cutL_len {o f : Int} {ba bf : Bool} (L : List Du) : (cutL o ba f bf L).length ≤ L.length := List.length_filter_le _ _
set_option maxHeartbeats 4000000 in
set_option maxRecDepth 100000 in
theorem rcut_any {B : Nat} {w : World} {r : Nat} {v : Value} {most : Nat} {L : List Du} (R : Rf B w r v most L) (o f : Int) (ba bf : Bool) (hl : L.length ≤ 4096) :
    Calls Try.prog 23 #[.pointer (some ⟨r, 0, none⟩), .int .u32 o, .bool ba, .int .u32 f, .bool bf] w fun e w' => e = .returned (.int .i64 ((L.length : Int) - ((cutL o ba f bf L).length : Int))) ∧ ∃ v', Rf B w' r v' most (cutL o ba f bf L) ∧ RCh r v' w w' := by
  obtain ⟨i0, hi, hz0, hz1, hz2⟩ := info_parts d_info
  have hBw : B ≤ w.heap.size := by have := R.lo; have := R.blk.lt; omega
  have hrw := R.blk.lt
  have hvw := fun g e => (row_lt R.row (g := g) e).1
  have RR := hid0 R
  obtain ⟨S, hS1, hS2⟩ : ∃ S, S ≤ w.heap.size ∧ w.heap.size ≤ S := ⟨_, Nat.le_refl _, Nat.le_refl _⟩
  have hz : ∃ ao cp, v = .slice ao L.length cp := by
    rcases R.shape with ⟨rfl, rfl⟩ | ⟨g, cp, rfl, _⟩
    · exact ⟨none, 0, rfl⟩
    · exact ⟨some ⟨g, 0, none⟩, cp, rfl⟩
  obtain ⟨ao, cpv, hv⟩ := hz
  clear R
  go_enter Try.func23, Try.ntmps23
  go_wp2
  go_loopw [11, 12, 13] (fun q n i wr => ∃ (k c : Nat) (out : List Du), k ≤ L.length ∧ i = .int .i64 k ∧ n = .int .i64 c ∧ c + out.length = k ∧ Hid (Below S w wr) ∧ Hid (wr.ownsRow S 32 3 q out.length (flat out)) ∧ Hid (out = cutL o ba f bf (L.take k))) (fun _ _ i _ => L.length - (intOf i).toNat)
  case atStart => exact ⟨0, 0, [], Nat.zero_le _, rfl, rfl, rfl, Below.refl _ _, World.ownsRow_nil _ _ _ _, rfl⟩
  case round =>
    obtain ⟨k, c, out, hk, rfl, rfl, hc, hB, hO, hI⟩ := hrel
    have Rr := RR.out.keep (hB.out.block r (by omega)) (fun q e => hB.out.block q (by have := hvw q e; omega))
    have hsz : S ≤ wr.heap.size := by have := hB.out.size; omega
    by_cases hlt : k < L.length
    · have hlt' : (k : Int) < (L.length : Int) := by omega
      obtain ⟨gr, cpr, hvr, _, RGr, _⟩ : ∃ g cp, v = .slice (some ⟨g, 0, none⟩) L.length cp ∧ B ≤ g ∧ RowG wr g cp L ∧ L.length ≤ cp := by
        rcases Rr.shape with ⟨_, h⟩ | h
        · subst h; simp at hlt
        · exact h
      have dr := Rr.cells.2
      rw [hvr] at dr
      obtain ⟨p0, p1, p2⟩ := RGr.at.cell hlt
      rw [show L.getD k (0, 0, 0) = nth L k from rfl] at p0 p1 p2
      have hT := cutL_take (o := o) (ba := ba) (f := f) (bf := bf) hlt
      obtain ⟨y, hy⟩ : ∃ y, y = nth L k := ⟨_, rfl⟩
      rw [← hy] at p0 p1 p2 hT
      clear hy Rr RGr
      obtain ⟨ya, yo, yf⟩ := y
      dsimp only at p0 p1 p2
      rw [← hI.out] at hT
      have k5 := Bk.new wr 32 [.int .u32 ya, .int .u32 yo, .int .u32 yf]
      have B5 := hid0 (hB.out.alloc hsz (.cells #[.int .u32 ya, .int .u32 yo, .int .u32 yf] 32))
      have O5 := hid0 (own_alloc (o := .cells #[.int .u32 ya, .int .u32 yo, .int .u32 yf] 32) hO.out)
      go_upto_region 7 with fail
      clear p0 p1 p2 dr hB hO hsz
      generalize wr.alloc _ = W5 at *
      obtain ⟨b4, e4⟩ : ∃ b4, b4 = wr.heap.size := ⟨_, rfl⟩
      rw [← e4] at k5 ⊢
      clear e4
      have hsz : S ≤ W5.heap.size := by have := B5.out.size; omega
      have x0 := k5.at 0
      have x1 := k5.at 1
      have x2 := k5.at 2
      simp only [List.getElem?_cons_zero, List.getElem?_cons_succ] at x0 x1 x2
      clear k5
      cases ba with
      | true =>
        cases bf with
        | true =>
          have hb : hit o true f true (ya, yo, yf) = true := by simp [hit]
          rw [hb, if_pos rfl, List.append_nil] at hT
          have I8 := hid0 hT.symm
          clear hT hb hI
          go_wp2
          go_roundw
          case rel => exact ⟨k + 1, c + 1, _, by omega, by go_num, by go_num, by omega, B5, O5, I8⟩
          case measure => simp [intOf]; omega
        | false =>
          by_cases ef : yf = f
          · subst ef
            have hb : hit o true yf false (ya, yo, yf) = true := by simp [hit]
            rw [hb, if_pos rfl, List.append_nil] at hT
            have I8 := hid0 hT.symm
            clear hT hb hI
            go_wp2
            go_roundw
            case rel => exact ⟨k + 1, c + 1, _, by omega, by go_num, by go_num, by omega, B5, O5, I8⟩
            case measure => simp [intOf]; omega
          · skip
            have hb : hit o true f false (ya, yo, yf) = false := by simp [hit, ef]
            rw [hb, if_neg (by simp)] at hT
            have I8 := hid0 hT.symm
            clear hT hb hI
            go_wp2_with (at_builtin; refine wpList_append_own _ rfl (.tmp 49) (.tmp 51) 36 rfl S 32 i0 (.agg #[.int .u32 0, .int .u32 0, .int .u32 0]) 3 12 Try.underlying36 hi hz0 hz1 hz2 rfl (by decide) _ out.length (flat out) rfl (own_alloc O5.out) ⟨_, 0, none⟩ 1 1 (dL (ya, yo, yf)) rfl rfl (by intro j u hj; rw [← hj, Addr.add_lit, Nat.zero_add]; exact (Bk.new _ 32 (dL (ya, yo, yf))).at j) (dL_cell _) (by unfold maxLen; omega) (by omega) (by simp; omega) ?_)
            intro sv8 w8 hown8 hgrow8 _
            have B8 : Hid (Below S w w8) := (B5.out.alloc hsz _).grown hgrow8 (by rw [World.size_alloc]; omega) (fun q e => (row_lt O5.out e).2.1)
            have O8 : Hid (w8.ownsRow S 32 3 sv8 (out ++ [(ya, yo, yf)]).length (flat (out ++ [(ya, yo, yf)]))) := by
              have := hown8
              simp only [List.length_append, List.length_cons, List.length_nil, Nat.zero_add] at this ⊢
              rw [flat_app]
              exact this
            have hl8 : (out ++ [(ya, yo, yf)]).length = out.length + 1 := List.length_append
            clear hown8 hgrow8 O5 B5
            go_wp2
            go_roundw
            case rel => exact ⟨k + 1, c, _, by omega, by go_num, rfl, by omega, B8, O8, I8⟩
            case measure => simp [intOf]; omega
      | false =>
        by_cases eo : yo = o
        · subst eo
          cases bf with
          | true =>
            have hb : hit yo false f true (ya, yo, yf) = true := by simp [hit]
            rw [hb, if_pos rfl, List.append_nil] at hT
            have I8 := hid0 hT.symm
            clear hT hb hI
            go_wp2
            go_roundw
            case rel => exact ⟨k + 1, c + 1, _, by omega, by go_num, by go_num, by omega, B5, O5, I8⟩
            case measure => simp [intOf]; omega
          | false =>
            by_cases ef : yf = f
            · subst ef
              have hb : hit yo false yf false (ya, yo, yf) = true := by simp [hit]
              rw [hb, if_pos rfl, List.append_nil] at hT
              have I8 := hid0 hT.symm
              clear hT hb hI
              go_wp2
              go_roundw
              case rel => exact ⟨k + 1, c + 1, _, by omega, by go_num, by go_num, by omega, B5, O5, I8⟩
              case measure => simp [intOf]; omega
            · skip
              have hb : hit yo false f false (ya, yo, yf) = false := by simp [hit, ef]
              rw [hb, if_neg (by simp)] at hT
              have I8 := hid0 hT.symm
              clear hT hb hI
              go_wp2_with (at_builtin; refine wpList_append_own _ rfl (.tmp 49) (.tmp 51) 36 rfl S 32 i0 (.agg #[.int .u32 0, .int .u32 0, .int .u32 0]) 3 12 Try.underlying36 hi hz0 hz1 hz2 rfl (by decide) _ out.length (flat out) rfl (own_alloc O5.out) ⟨_, 0, none⟩ 1 1 (dL (ya, yo, yf)) rfl rfl (by intro j u hj; rw [← hj, Addr.add_lit, Nat.zero_add]; exact (Bk.new _ 32 (dL (ya, yo, yf))).at j) (dL_cell _) (by unfold maxLen; omega) (by omega) (by simp; omega) ?_)
              intro sv8 w8 hown8 hgrow8 _
              have B8 : Hid (Below S w w8) := (B5.out.alloc hsz _).grown hgrow8 (by rw [World.size_alloc]; omega) (fun q e => (row_lt O5.out e).2.1)
              have O8 : Hid (w8.ownsRow S 32 3 sv8 (out ++ [(ya, yo, yf)]).length (flat (out ++ [(ya, yo, yf)]))) := by
                have := hown8
                simp only [List.length_append, List.length_cons, List.length_nil, Nat.zero_add] at this ⊢
                rw [flat_app]
                exact this
              have hl8 : (out ++ [(ya, yo, yf)]).length = out.length + 1 := List.length_append
              clear hown8 hgrow8 O5 B5
              go_wp2
              go_roundw
              case rel => exact ⟨k + 1, c, _, by omega, by go_num, rfl, by omega, B8, O8, I8⟩
              case measure => simp [intOf]; omega
        · skip
          have hb : hit o false f bf (ya, yo, yf) = false := by simp [hit, eo]
          rw [hb, if_neg (by simp)] at hT
          have I8 := hid0 hT.symm
          clear hT hb hI
          go_wp2_with (at_builtin; refine wpList_append_own _ rfl (.tmp 49) (.tmp 51) 36 rfl S 32 i0 (.agg #[.int .u32 0, .int .u32 0, .int .u32 0]) 3 12 Try.underlying36 hi hz0 hz1 hz2 rfl (by decide) _ out.length (flat out) rfl (own_alloc O5.out) ⟨_, 0, none⟩ 1 1 (dL (ya, yo, yf)) rfl rfl (by intro j u hj; rw [← hj, Addr.add_lit, Nat.zero_add]; exact (Bk.new _ 32 (dL (ya, yo, yf))).at j) (dL_cell _) (by unfold maxLen; omega) (by omega) (by simp; omega) ?_)
          intro sv8 w8 hown8 hgrow8 _
          have B8 : Hid (Below S w w8) := (B5.out.alloc hsz _).grown hgrow8 (by rw [World.size_alloc]; omega) (fun q e => (row_lt O5.out e).2.1)
          have O8 : Hid (w8.ownsRow S 32 3 sv8 (out ++ [(ya, yo, yf)]).length (flat (out ++ [(ya, yo, yf)]))) := by
            have := hown8
            simp only [List.length_append, List.length_cons, List.length_nil, Nat.zero_add] at this ⊢
            rw [flat_app]
            exact this
          have hl8 : (out ++ [(ya, yo, yf)]).length = out.length + 1 := List.length_append
          clear hown8 hgrow8 O5 B5
          go_wp2
          go_roundw
          case rel => exact ⟨k + 1, c, _, by omega, by go_num, rfl, by omega, B8, O8, I8⟩
          case measure => simp [intOf]; omega
    · have hlt' : ¬ (k : Int) < (L.length : Int) := by omega
      have ek : k = L.length := by omega
      have dr := Rr.cells.2
      rw [hv] at dr
      have EQ : Hid (out = cutL o ba f bf L) := by
        have := hI.out
        rw [ek, List.take_length] at this
        exact this
      have hn : (c : Int) = (L.length : Int) - ((cutL o ba f bf L).length : Int) := by
        rw [← EQ.out]
        omega
      have O6 := hO
      have B6 := hB
      obtain ⟨ao2, n2, c2, hsv⟩ : ∃ ao n c, u11 = .slice ao n c := by
        rcases O6.out.2 with ⟨e, _⟩ | ⟨_, _, _, e, _⟩ <;> exact ⟨_, _, _, e⟩
      subst hsv
      have q0 := Rr.blk.at 1
      have qf := Rr.blk.frozen 1
      simp only [List.getElem?_cons_zero, List.getElem?_cons_succ] at q0
      have hrow : ∀ q, Value.ownBlock (.slice ao2 n2 c2) = some q → q ≠ r := fun q e => by have := (row_lt O6.out e).2.1; omega
      have FR : Hid (Rf B (wr.setCell ⟨r, 1, none⟩ (.slice ao2 n2 c2)) r (.slice ao2 n2 c2) most (cutL o ba f bf L)) := by
        have kb := Rr.blk.set 1 (.slice ao2 n2 c2)
        simp only [List.set_cons_zero, List.set_cons_succ] at kb
        refine ⟨kb, ?_, Rr.lo⟩
        rw [← EQ.out]
        have := row_keep O6.out (w' := wr.setCell ⟨r, 1, none⟩ (.slice ao2 n2 c2)) (fun q e => Below.heap_setCell _ _ _ _ (hrow q e))
        refine ⟨this.1, ?_⟩
        rcases this.2 with h | ⟨q, c, cu, h1, h2, h3⟩
        · exact .inl h
        · exact .inr ⟨q, c, cu, h1, by omega, h3⟩
      have BWf : Below w.heap.size w wr := B6.out.mono hS2
      have FC : Hid (RCh r (.slice ao2 n2 c2) w (wr.setCell ⟨r, 1, none⟩ (.slice ao2 n2 c2))) :=
        ⟨(Chg.of_below BWf).trans (Chg.set (p := fun k => k = r) _ (a := ⟨r, 1, none⟩) rfl _), fun q e => by have := (row_lt O6.out e).2.1; omega⟩
      clear Rr B6 O6 hrow BWf hB hO hI
      go_wp2
      go_ret
      exact ⟨by first | rfl | rw [hn], _, FR.out, FC.out⟩
end Go.Proofs.Ytaapdkjmlplhgaa

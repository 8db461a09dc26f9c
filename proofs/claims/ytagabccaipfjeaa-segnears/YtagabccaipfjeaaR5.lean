/- Contract of the reference's sum of two rows of words. -/
import Derived.Test.YtagabccaipfjeaaR4
namespace Go.Proofs.Ytagabccaipfjeaa
open Go.RowKit Go.Sort

theorem Rd.mono {w w' : World} {ao : Option Addr} {cap : Nat} {l : List Int} (h : Rd w ao cap l) (g : Below w.heap.size w w') : Rd w' ao cap l :=
  ⟨h.nil, fun a ha => by
    obtain ⟨b, cur, e, hb, hc⟩ := h.row a ha
    exact ⟨b, cur, e, (g.block b (lt_of_block hb)).trans hb, hc⟩, h.le, h.cap, h.dig⟩
theorem Nm.mono {w w' : World} {x : Value} {n : Int} {L : Nat} (h : Nm w x n L) (g : Below w.heap.size w w') : Nm w' x n L := by
  obtain ⟨ao, cap, l, e, hr, r⟩ := h; exact ⟨ao, cap, l, e, hr.mono g, r⟩
/-- Block g is a row of these digits. -/
def Row (w : World) (g : Nat) (X : List Int) : Prop := w.heap[g]? = some (.cells (X.map (Value.int .u32)).toArray 80 (0, 0))
theorem Row.lt {w : World} {g : Nat} {X : List Int} (h : Row w g X) : g < w.heap.size := lt_of_block h
theorem Row.cell {w : World} {g : Nat} {X : List Int} (h : Row w g X) (i : Nat) (hi : i < X.length) : w.cell? ⟨g, i, none⟩ = some (.int .u32 (dg X i)) := by
  rw [cell_of_row w g i _ 80 (0, 0) h]
  simp [dg, List.getD, hi]
theorem Row.frozen {w : World} {g : Nat} {X : List Int} (h : Row w g X) (i : Nat) : w.frozen? ⟨g, i, none⟩ = false := by unfold Row at h; simp [World.frozen?, h]
theorem Row.mono {w w' : World} {g B : Nat} {X : List Int} (h : Row w g X) (b : Below B w w') (hg : g < B) : Row w' g X := by
  unfold Row; rw [b.block g hg]; exact h
theorem Row.set {w : World} {g : Nat} {X : List Int} (h : Row w g X) (i : Nat) (d : Int) : Row (w.setCell ⟨g, i, none⟩ (.int .u32 d)) g (X.set i d) := by
  have hlt := h.lt
  have h' : w.heap[g] = .cells (X.map (Value.int .u32)).toArray 80 (0, 0) := by unfold Row at h; simpa [Array.getElem?_eq_getElem hlt] using h
  show (w.heap.modify g _)[g]? = _
  rw [Array.getElem?_eq_getElem (by simpa using hlt), Array.getElem_modify_self, h']
  simp
theorem Row.other {w : World} {g : Nat} {X : List Int} (h : Row w g X) {p : Addr} (hp : g ≠ p.block) (z : Value) : Row (w.setCell p z) g X := by
  unfold Row; rw [Below.heap_setCell _ _ _ _ hp]; exact h
theorem Row.alloc {w : World} {g : Nat} {X : List Int} (h : Row w g X) (o : Obj) : Row (w.alloc o) g X := by
  unfold Row; rw [Below.heap_alloc w o g h.lt]; exact h
theorem Row.rd {w : World} {g : Nat} {X : List Int} (h : Row w g X) (hd : ∀ d ∈ X, isD d) (hf : X.length ≤ 100000) : Rd w (some ⟨g, 0, none⟩) X.length X :=
  ⟨fun e => (by cases e), fun a ha => (by cases ha; exact ⟨g, _, rfl, h, fun i hi => by simp [dg, List.getD, hi]⟩), Nat.le_refl _, hf, hd⟩
theorem Row.new {w : World} {base g n : Nat} (h : w.ownsRow base 80 1 (.slice (some ⟨g, 0, none⟩) n n) n (madeCells #[.int .u32 0] n).toList) : Row w g (List.replicate n 0) := by
  rcases h.2 with ⟨e, _⟩ | ⟨g', cap, cur, e, _, hh, _, _, hs, ht⟩
  · cases e
  · cases e
    unfold Row
    rw [hh]
    have e1 : cur.toList = (madeCells #[.int .u32 0] n).toList := by rw [← ht, List.take_of_length_le (by simp [hs])]
    have e2 : cur = (madeCells #[.int .u32 0] n) := Array.toList_inj.1 e1
    rw [e2]
    congr 2
    apply Array.ext
    · simp [madeCells]
    · intro i h1 h2
      simp [madeCells, Nat.mod_one]

theorem Try.info80 : (Try.prog.info? 80).map (fun i => (i.zero, i.size, i.bytes)) = some (some (.int .u32 0), 1, 4) := by kernel_rfl
theorem set_at {l : List Int} {k m : Nat} (hl : l.length = k) (hm : 0 < m - k) (d : Int) : (l ++ List.replicate (m - k) 0).set k d = (l ++ [d]) ++ List.replicate (m - (k + 1)) 0 := by
  obtain ⟨j, hj⟩ := Nat.exists_eq_succ_of_ne_zero (show m - k ≠ 0 by omega)
  have e : m - (k + 1) = j := by omega
  rw [hj, e, List.replicate_succ, ← hl]
  simp
set_option maxRecDepth 20000 in
set_option maxHeartbeats 4000000 in
theorem sum_any (ao bo : Option Addr) (ca cb : Nat) (a b : List Int) (w : World) (ha : Rd w ao ca a) (hb : Rd w bo cb b) (h1 : a.length ≤ 1000) (h2 : b.length ≤ 1000) :
    Calls Try.prog 58 #[.slice ao a.length ca, .slice bo b.length cb] w fun e w' => ∃ g l, e = .returned (.slice (some ⟨g, 0, none⟩) l.length l.length) ∧ Rd w' (some ⟨g, 0, none⟩) l.length l ∧ vals l = vals a + vals b ∧ l.length = max a.length b.length + 1 ∧ Below w.heap.size w w' := by
  obtain ⟨i0, hi, hz0, hz1, hz2⟩ := info_parts Try.info80
  have hda := allD_of ha.dig
  have hdb := allD_of hb.dig
  have HE : Hid (∀ n, n = max a.length b.length + 1 → vals (sumD (dg a) (dg b) n) = vals a + vals b) := fun n hn => by
    subst hn
    exact sum_end a b _ (by omega) (by omega) (sumC_end a b (max a.length b.length) (by omega) (by omega) hda hdb)
  have HL := sumD_len (dg a) (dg b)
  have HI := sumD_isD (dg a) (dg b)
  by_cases hc : a.length < b.length
  · have w64n : wrap64 ((b.length : Int) + 1) = (b.length : Int) + 1 := by unfold wrap64; omega
    go_enter Try.func58, Try.ntmps58
    go_wp2_with (at_make; refine wpList_make_full _ rfl (.tmp 16) (.tmp 16) 49 rfl w.heap.size 80 i0 (.int .u32 0) 1 Try.underlying49 hi hz0 hz1 .i64 .i64 _ _ (b.length + 1) rfl rfl (by omega) (by omega) (by rw [hz2]; omega) (by unfold maxLen; omega) (by simp) ?_)
    intro w1 hown hgrow
    have hrow0 := Row.new hown
    have hbl0 : Below w.heap.size w w1 := ⟨hgrow.os, hgrow.tape, hgrow.output, hgrow.size, fun k hk => hgrow.block k hk (by simp)⟩
    clear hown hgrow w64n
    go_wp2
    go_loopw [7, 8] (fun vc vi wr => ∃ k : Nat, k ≤ b.length + 1 ∧ vi = .int .i64 k ∧ vc = .int .u64 (sumC (dg a) (dg b) k) ∧ Row wr w.heap.size (sumD (dg a) (dg b) k ++ List.replicate (b.length + 1 - k) 0) ∧ Below w.heap.size w wr) (fun _ vi _ => b.length + 1 - (intOf vi).toNat)
    case atStart => exact ⟨0, by omega, rfl, rfl, by simpa [sumD] using hrow0, hbl0⟩
    case round =>
      clear hrow0 hbl0
      obtain ⟨k, hk, rfl, rfl, hrow, hbl⟩ := hrel
      by_cases hend : k = b.length + 1
      · subst hend
        have E : Hid (vals (sumD (dg a) (dg b) (b.length + 1)) = vals a + vals b) := HE.out _ (by omega)
        rw [Nat.sub_self, List.replicate_zero, List.append_nil] at hrow
        have hR := hrow.rd (HI _) (by rw [HL]; omega)
        rw [HL] at hR
        go_wp2
        go_ret
        exact ⟨w.heap.size, sumD (dg a) (dg b) (b.length + 1), by rw [HL]; rfl, by rw [HL]; exact hR, E.out, by rw [HL]; omega, hbl⟩
      · have hlen : (sumD (dg a) (dg b) k ++ List.replicate (b.length + 1 - k) 0).length = b.length + 1 := by rw [List.length_append, HL, List.length_replicate]; omega
        obtain ⟨sc0, sc1⟩ := sumC_bd hda hdb k
        have HS : Hid (sumC (dg a) (dg b) k = sumC (dg a) (dg b) k) := rfl
        have da := hda k
        have db := hdb k
        unfold isD at da db
        generalize hSC : sumC (dg a) (dg b) k = SC at *
        replace HS : Hid (sumC (dg a) (dg b) k = SC) := hSC
        clear hSC
        have hk1 : k < b.length + 1 := by omega
        by_cases hka : k < a.length
        · by_cases hkb : k < b.length
          · have hx : Hid (dg a k + dg b k + SC = SC + dg a k + dg b k) := by unfold Hid; omega
            have e1 : IntKind.u64.wrap (dg a k) = dg a k := by rw [IntKind.wrap_u64]; omega
            have e2 : IntKind.u64.wrap (SC + dg a k) = SC + dg a k := by rw [IntKind.wrap_u64]; omega
            have e3 : IntKind.u64.wrap (dg b k) = dg b k := by rw [IntKind.wrap_u64]; omega
            have e4 : IntKind.u64.wrap (SC + dg a k + dg b k) = SC + dg a k + dg b k := by rw [IntKind.wrap_u64]; omega
            have e5 : Int.tmod (SC + dg a k + dg b k) 4294967296 = (SC + dg a k + dg b k) % 4294967296 := Int.tmod_eq_emod_of_nonneg (by omega)
            have e6 : Int.tdiv (SC + dg a k + dg b k) 4294967296 = (SC + dg a k + dg b k) / 4294967296 := Int.tdiv_eq_ediv_of_nonneg (by omega)
            have e7 : IntKind.u64.wrap ((SC + dg a k + dg b k) / 4294967296) = (SC + dg a k + dg b k) / 4294967296 := by rw [IntKind.wrap_u64]; omega
            have e8 : (SC + dg a k + dg b k) % 4294967296 % 4294967296 = (SC + dg a k + dg b k) % 4294967296 := by omega
            obtain ⟨xa, rfl⟩ := ha.has (by omega)
            have ca1 := (ha.mono hbl).at (i := k) hka
            obtain ⟨xb, rfl⟩ := hb.has (by omega)
            have cb1 := (hb.mono hbl).at (i := k) hkb
            have r1 := hrow.cell k (by rw [hlen]; omega)
            have rf := hrow.frozen k
            have HN : Hid (sumC (dg a) (dg b) (k + 1) = (SC + dg a k + dg b k) / 4294967296) := by unfold Hid; rw [sumC_succ, HS.out, hx.out]
            have HR := hrow.set k ((SC + dg a k + dg b k) % 4294967296)
            have HD : Hid ((sumD (dg a) (dg b) k ++ List.replicate (b.length + 1 - k) 0).set k ((SC + dg a k + dg b k) % 4294967296) = sumD (dg a) (dg b) (k + 1) ++ List.replicate (b.length + 1 - (k + 1)) 0) := by unfold Hid; rw [sumD_succ, HS.out, hx.out]; exact set_at (HL k) (by omega) _
            rw [HD.out] at HR
            clear HD
            clear sc0 sc1 da db
            generalize dg (sumD (dg a) (dg b) k ++ List.replicate (b.length + 1 - k) 0) k = old at *
            go_wp2
            go_roundw
            case rel => exact ⟨k + 1, by omega, by go_num, by rw [HN.out], HR, hbl.setCell (by simp only []; omega) _⟩
            case measure => simp [intOf]; omega
          · omega
        · by_cases hkb : k < b.length
          · have za : dg a k = 0 := dg_out a k (by omega)
            have hx : Hid (dg a k + dg b k + SC = SC + dg b k) := by unfold Hid; omega
            have e3 : IntKind.u64.wrap (dg b k) = dg b k := by rw [IntKind.wrap_u64]; omega
            have e4 : IntKind.u64.wrap (SC + dg b k) = SC + dg b k := by rw [IntKind.wrap_u64]; omega
            have e5 : Int.tmod (SC + dg b k) 4294967296 = (SC + dg b k) % 4294967296 := Int.tmod_eq_emod_of_nonneg (by omega)
            have e6 : Int.tdiv (SC + dg b k) 4294967296 = (SC + dg b k) / 4294967296 := Int.tdiv_eq_ediv_of_nonneg (by omega)
            have e7 : IntKind.u64.wrap ((SC + dg b k) / 4294967296) = (SC + dg b k) / 4294967296 := by rw [IntKind.wrap_u64]; omega
            have e8 : (SC + dg b k) % 4294967296 % 4294967296 = (SC + dg b k) % 4294967296 := by omega
            obtain ⟨xb, rfl⟩ := hb.has (by omega)
            have cb1 := (hb.mono hbl).at (i := k) hkb
            have r1 := hrow.cell k (by rw [hlen]; omega)
            have rf := hrow.frozen k
            have HN : Hid (sumC (dg a) (dg b) (k + 1) = (SC + dg b k) / 4294967296) := by unfold Hid; rw [sumC_succ, HS.out, hx.out]
            have HR := hrow.set k ((SC + dg b k) % 4294967296)
            have HD : Hid ((sumD (dg a) (dg b) k ++ List.replicate (b.length + 1 - k) 0).set k ((SC + dg b k) % 4294967296) = sumD (dg a) (dg b) (k + 1) ++ List.replicate (b.length + 1 - (k + 1)) 0) := by unfold Hid; rw [sumD_succ, HS.out, hx.out]; exact set_at (HL k) (by omega) _
            rw [HD.out] at HR
            clear HD
            clear za
            clear sc0 sc1 da db
            generalize dg (sumD (dg a) (dg b) k ++ List.replicate (b.length + 1 - k) 0) k = old at *
            go_wp2
            go_roundw
            case rel => exact ⟨k + 1, by omega, by go_num, by rw [HN.out], HR, hbl.setCell (by simp only []; omega) _⟩
            case measure => simp [intOf]; omega
          · have za : dg a k = 0 := dg_out a k (by omega)
            have zb : dg b k = 0 := dg_out b k (by omega)
            have hx : Hid (dg a k + dg b k + SC = SC) := by unfold Hid; omega
            have e5 : Int.tmod (SC) 4294967296 = (SC) % 4294967296 := Int.tmod_eq_emod_of_nonneg (by omega)
            have e6 : Int.tdiv (SC) 4294967296 = (SC) / 4294967296 := Int.tdiv_eq_ediv_of_nonneg (by omega)
            have e7 : IntKind.u64.wrap ((SC) / 4294967296) = (SC) / 4294967296 := by rw [IntKind.wrap_u64]; omega
            have e8 : (SC) % 4294967296 % 4294967296 = (SC) % 4294967296 := by omega
            have r1 := hrow.cell k (by rw [hlen]; omega)
            have rf := hrow.frozen k
            have HN : Hid (sumC (dg a) (dg b) (k + 1) = (SC) / 4294967296) := by unfold Hid; rw [sumC_succ, HS.out, hx.out]
            have HR := hrow.set k ((SC) % 4294967296)
            have HD : Hid ((sumD (dg a) (dg b) k ++ List.replicate (b.length + 1 - k) 0).set k ((SC) % 4294967296) = sumD (dg a) (dg b) (k + 1) ++ List.replicate (b.length + 1 - (k + 1)) 0) := by unfold Hid; rw [sumD_succ, HS.out, hx.out]; exact set_at (HL k) (by omega) _
            rw [HD.out] at HR
            clear HD
            clear za
            clear zb
            clear sc0 sc1 da db
            generalize dg (sumD (dg a) (dg b) k ++ List.replicate (b.length + 1 - k) 0) k = old at *
            go_wp2
            go_roundw
            case rel => exact ⟨k + 1, by omega, by go_num, by rw [HN.out], HR, hbl.setCell (by simp only []; omega) _⟩
            case measure => simp [intOf]; omega
  · have w64n : wrap64 ((a.length : Int) + 1) = (a.length : Int) + 1 := by unfold wrap64; omega
    go_enter Try.func58, Try.ntmps58
    go_wp2_with (at_make; refine wpList_make_full _ rfl (.tmp 16) (.tmp 16) 49 rfl w.heap.size 80 i0 (.int .u32 0) 1 Try.underlying49 hi hz0 hz1 .i64 .i64 _ _ (a.length + 1) rfl rfl (by omega) (by omega) (by rw [hz2]; omega) (by unfold maxLen; omega) (by simp) ?_)
    intro w1 hown hgrow
    have hrow0 := Row.new hown
    have hbl0 : Below w.heap.size w w1 := ⟨hgrow.os, hgrow.tape, hgrow.output, hgrow.size, fun k hk => hgrow.block k hk (by simp)⟩
    clear hown hgrow w64n
    go_wp2
    go_loopw [7, 8] (fun vc vi wr => ∃ k : Nat, k ≤ a.length + 1 ∧ vi = .int .i64 k ∧ vc = .int .u64 (sumC (dg a) (dg b) k) ∧ Row wr w.heap.size (sumD (dg a) (dg b) k ++ List.replicate (a.length + 1 - k) 0) ∧ Below w.heap.size w wr) (fun _ vi _ => a.length + 1 - (intOf vi).toNat)
    case atStart => exact ⟨0, by omega, rfl, rfl, by simpa [sumD] using hrow0, hbl0⟩
    case round =>
      clear hrow0 hbl0
      obtain ⟨k, hk, rfl, rfl, hrow, hbl⟩ := hrel
      by_cases hend : k = a.length + 1
      · subst hend
        have E : Hid (vals (sumD (dg a) (dg b) (a.length + 1)) = vals a + vals b) := HE.out _ (by omega)
        rw [Nat.sub_self, List.replicate_zero, List.append_nil] at hrow
        have hR := hrow.rd (HI _) (by rw [HL]; omega)
        rw [HL] at hR
        go_wp2
        go_ret
        exact ⟨w.heap.size, sumD (dg a) (dg b) (a.length + 1), by rw [HL]; rfl, by rw [HL]; exact hR, E.out, by rw [HL]; omega, hbl⟩
      · have hlen : (sumD (dg a) (dg b) k ++ List.replicate (a.length + 1 - k) 0).length = a.length + 1 := by rw [List.length_append, HL, List.length_replicate]; omega
        obtain ⟨sc0, sc1⟩ := sumC_bd hda hdb k
        have HS : Hid (sumC (dg a) (dg b) k = sumC (dg a) (dg b) k) := rfl
        have da := hda k
        have db := hdb k
        unfold isD at da db
        generalize hSC : sumC (dg a) (dg b) k = SC at *
        replace HS : Hid (sumC (dg a) (dg b) k = SC) := hSC
        clear hSC
        have hk1 : k < a.length + 1 := by omega
        by_cases hka : k < a.length
        · by_cases hkb : k < b.length
          · have hx : Hid (dg a k + dg b k + SC = SC + dg a k + dg b k) := by unfold Hid; omega
            have e1 : IntKind.u64.wrap (dg a k) = dg a k := by rw [IntKind.wrap_u64]; omega
            have e2 : IntKind.u64.wrap (SC + dg a k) = SC + dg a k := by rw [IntKind.wrap_u64]; omega
            have e3 : IntKind.u64.wrap (dg b k) = dg b k := by rw [IntKind.wrap_u64]; omega
            have e4 : IntKind.u64.wrap (SC + dg a k + dg b k) = SC + dg a k + dg b k := by rw [IntKind.wrap_u64]; omega
            have e5 : Int.tmod (SC + dg a k + dg b k) 4294967296 = (SC + dg a k + dg b k) % 4294967296 := Int.tmod_eq_emod_of_nonneg (by omega)
            have e6 : Int.tdiv (SC + dg a k + dg b k) 4294967296 = (SC + dg a k + dg b k) / 4294967296 := Int.tdiv_eq_ediv_of_nonneg (by omega)
            have e7 : IntKind.u64.wrap ((SC + dg a k + dg b k) / 4294967296) = (SC + dg a k + dg b k) / 4294967296 := by rw [IntKind.wrap_u64]; omega
            have e8 : (SC + dg a k + dg b k) % 4294967296 % 4294967296 = (SC + dg a k + dg b k) % 4294967296 := by omega
            obtain ⟨xa, rfl⟩ := ha.has (by omega)
            have ca1 := (ha.mono hbl).at (i := k) hka
            obtain ⟨xb, rfl⟩ := hb.has (by omega)
            have cb1 := (hb.mono hbl).at (i := k) hkb
            have r1 := hrow.cell k (by rw [hlen]; omega)
            have rf := hrow.frozen k
            have HN : Hid (sumC (dg a) (dg b) (k + 1) = (SC + dg a k + dg b k) / 4294967296) := by unfold Hid; rw [sumC_succ, HS.out, hx.out]
            have HR := hrow.set k ((SC + dg a k + dg b k) % 4294967296)
            have HD : Hid ((sumD (dg a) (dg b) k ++ List.replicate (a.length + 1 - k) 0).set k ((SC + dg a k + dg b k) % 4294967296) = sumD (dg a) (dg b) (k + 1) ++ List.replicate (a.length + 1 - (k + 1)) 0) := by unfold Hid; rw [sumD_succ, HS.out, hx.out]; exact set_at (HL k) (by omega) _
            rw [HD.out] at HR
            clear HD
            clear sc0 sc1 da db
            generalize dg (sumD (dg a) (dg b) k ++ List.replicate (a.length + 1 - k) 0) k = old at *
            go_wp2
            go_roundw
            case rel => exact ⟨k + 1, by omega, by go_num, by rw [HN.out], HR, hbl.setCell (by simp only []; omega) _⟩
            case measure => simp [intOf]; omega
          · have zb : dg b k = 0 := dg_out b k (by omega)
            have hx : Hid (dg a k + dg b k + SC = SC + dg a k) := by unfold Hid; omega
            have e1 : IntKind.u64.wrap (dg a k) = dg a k := by rw [IntKind.wrap_u64]; omega
            have e2 : IntKind.u64.wrap (SC + dg a k) = SC + dg a k := by rw [IntKind.wrap_u64]; omega
            have e5 : Int.tmod (SC + dg a k) 4294967296 = (SC + dg a k) % 4294967296 := Int.tmod_eq_emod_of_nonneg (by omega)
            have e6 : Int.tdiv (SC + dg a k) 4294967296 = (SC + dg a k) / 4294967296 := Int.tdiv_eq_ediv_of_nonneg (by omega)
            have e7 : IntKind.u64.wrap ((SC + dg a k) / 4294967296) = (SC + dg a k) / 4294967296 := by rw [IntKind.wrap_u64]; omega
            have e8 : (SC + dg a k) % 4294967296 % 4294967296 = (SC + dg a k) % 4294967296 := by omega
            obtain ⟨xa, rfl⟩ := ha.has (by omega)
            have ca1 := (ha.mono hbl).at (i := k) hka
            have r1 := hrow.cell k (by rw [hlen]; omega)
            have rf := hrow.frozen k
            have HN : Hid (sumC (dg a) (dg b) (k + 1) = (SC + dg a k) / 4294967296) := by unfold Hid; rw [sumC_succ, HS.out, hx.out]
            have HR := hrow.set k ((SC + dg a k) % 4294967296)
            have HD : Hid ((sumD (dg a) (dg b) k ++ List.replicate (a.length + 1 - k) 0).set k ((SC + dg a k) % 4294967296) = sumD (dg a) (dg b) (k + 1) ++ List.replicate (a.length + 1 - (k + 1)) 0) := by unfold Hid; rw [sumD_succ, HS.out, hx.out]; exact set_at (HL k) (by omega) _
            rw [HD.out] at HR
            clear HD
            clear zb
            clear sc0 sc1 da db
            generalize dg (sumD (dg a) (dg b) k ++ List.replicate (a.length + 1 - k) 0) k = old at *
            go_wp2
            go_roundw
            case rel => exact ⟨k + 1, by omega, by go_num, by rw [HN.out], HR, hbl.setCell (by simp only []; omega) _⟩
            case measure => simp [intOf]; omega
        · by_cases hkb : k < b.length
          · omega
          · have za : dg a k = 0 := dg_out a k (by omega)
            have zb : dg b k = 0 := dg_out b k (by omega)
            have hx : Hid (dg a k + dg b k + SC = SC) := by unfold Hid; omega
            have e5 : Int.tmod (SC) 4294967296 = (SC) % 4294967296 := Int.tmod_eq_emod_of_nonneg (by omega)
            have e6 : Int.tdiv (SC) 4294967296 = (SC) / 4294967296 := Int.tdiv_eq_ediv_of_nonneg (by omega)
            have e7 : IntKind.u64.wrap ((SC) / 4294967296) = (SC) / 4294967296 := by rw [IntKind.wrap_u64]; omega
            have e8 : (SC) % 4294967296 % 4294967296 = (SC) % 4294967296 := by omega
            have r1 := hrow.cell k (by rw [hlen]; omega)
            have rf := hrow.frozen k
            have HN : Hid (sumC (dg a) (dg b) (k + 1) = (SC) / 4294967296) := by unfold Hid; rw [sumC_succ, HS.out, hx.out]
            have HR := hrow.set k ((SC) % 4294967296)
            have HD : Hid ((sumD (dg a) (dg b) k ++ List.replicate (a.length + 1 - k) 0).set k ((SC) % 4294967296) = sumD (dg a) (dg b) (k + 1) ++ List.replicate (a.length + 1 - (k + 1)) 0) := by unfold Hid; rw [sumD_succ, HS.out, hx.out]; exact set_at (HL k) (by omega) _
            rw [HD.out] at HR
            clear HD
            clear za
            clear zb
            clear sc0 sc1 da db
            generalize dg (sumD (dg a) (dg b) k ++ List.replicate (a.length + 1 - k) 0) k = old at *
            go_wp2
            go_roundw
            case rel => exact ⟨k + 1, by omega, by go_num, by rw [HN.out], HR, hbl.setCell (by simp only []; omega) _⟩
            case measure => simp [intOf]; omega
end Go.Proofs.Ytagabccaipfjeaa

/- Contract of the reference's sum of two rows of words. Contract of the reference's difference of two rows of words. Contract of the reference's product of two whole numbers. Contract of the reference's sum of two whole numbers. -/
import Derived.Test.YtagabccaipfjeaaRefA
namespace Go.Proofs.Ytagabccaipfjeaa
section
open Go.RowKit Go.Sort

theorem Rd.mono {w w' : World} {ao : Option Addr} {cap : Nat} {l : List Int} (h : Rd w ao cap l) (g : Below w.heap.size w w') : Rd w' ao cap l :=
  ⟨h.nil, fun a ha => by
    obtain ⟨b, cur, e, hb, hc⟩ := h.row a ha
    exact ⟨b, cur, e, (g.block b (lt_of_block hb)).trans hb, hc⟩, h.le, h.cap, h.dig⟩
theorem Nm.mono {w w' : World} {x : Value} {n : Int} {L : Nat} (h : Nm w x n L) (g : Below w.heap.size w w') : Nm w' x n L := by
  obtain ⟨ao, cap, l, e, hr, r⟩ := h; exact ⟨ao, cap, l, e, hr.mono g, r⟩
/-- Block g is a row of these digits. -/
def Row (w : World) (g : Nat) (X : List Int) : Prop := w.heap[g]? = some (.cells (X.map (Value.int .u32)).toArray 80 (0, 0))
theorem Row.lt {w : World} {g : Nat} {X : List Int} (h : Row w g X) : g < w.heap.size := lt_of_block h
theorem Row.cell {w : World} {g : Nat} {X : List Int} (h : Row w g X) (i : Nat) (hi : i < X.length) : w.cell? ⟨g, i, none⟩ = some (.int .u32 (dg X i)) := by
  rw [cell_of_row w g i _ 80 (0, 0) h]
  simp [dg, List.getD, hi]
theorem Row.frozen {w : World} {g : Nat} {X : List Int} (h : Row w g X) (i : Nat) : w.frozen? ⟨g, i, none⟩ = false := by unfold Row at h; simp [World.frozen?, h]
theorem Row.mono {w w' : World} {g B : Nat} {X : List Int} (h : Row w g X) (b : Below B w w') (hg : g < B) : Row w' g X := by
  unfold Row; rw [b.block g hg]; exact h
theorem Row.set {w : World} {g : Nat} {X : List Int} (h : Row w g X) (i : Nat) (d : Int) : Row (w.setCell ⟨g, i, none⟩ (.int .u32 d)) g (X.set i d) := by
  have hlt := h.lt
  have h' : w.heap[g] = .cells (X.map (Value.int .u32)).toArray 80 (0, 0) := by unfold Row at h; simpa [Array.getElem?_eq_getElem hlt] using h
  show (w.heap.modify g _)[g]? = _
  rw [Array.getElem?_eq_getElem (by simpa using hlt), Array.getElem_modify_self, h']
  simp
theorem Row.other {w : World} {g : Nat} {X : List Int} (h : Row w g X) {p : Addr} (hp : g ≠ p.block) (z : Value) : Row (w.setCell p z) g X := by
  unfold Row; rw [Below.heap_setCell _ _ _ _ hp]; exact h
theorem Row.alloc {w : World} {g : Nat} {X : List Int} (h : Row w g X) (o : Obj) : Row (w.alloc o) g X := by
  unfold Row; rw [Below.heap_alloc w o g h.lt]; exact h
theorem Row.rd {w : World} {g : Nat} {X : List Int} (h : Row w g X) (hd : ∀ d ∈ X, isD d) (hf : X.length ≤ 100000) : Rd w (some ⟨g, 0, none⟩) X.length X :=
  ⟨fun e => (by cases e), fun a ha => (by cases ha; exact ⟨g, _, rfl, h, fun i hi => by simp [dg, List.getD, hi]⟩), Nat.le_refl _, hf, hd⟩
theorem Row.new {w : World} {base g n : Nat} (h : w.ownsRow base 80 1 (.slice (some ⟨g, 0, none⟩) n n) n (madeCells #[.int .u32 0] n).toList) : Row w g (List.replicate n 0) := by
  rcases h.2 with ⟨e, _⟩ | ⟨g', cap, cur, e, _, hh, _, _, hs, ht⟩
  · cases e
  · cases e
    unfold Row
    rw [hh]
    have e1 : cur.toList = (madeCells #[.int .u32 0] n).toList := by rw [← ht, List.take_of_length_le (by simp [hs])]
    have e2 : cur = (madeCells #[.int .u32 0] n) := Array.toList_inj.1 e1
    rw [e2]
    congr 2
    apply Array.ext
    · simp [madeCells]
    · intro i h1 h2
      simp [madeCells, Nat.mod_one]

theorem Try.info80 : (Try.prog.info? 80).map (fun i => (i.zero, i.size, i.bytes)) = some (some (.int .u32 0), 1, 4) := by kernel_rfl
theorem set_at {l : List Int} {k m : Nat} (hl : l.length = k) (hm : 0 < m - k) (d : Int) : (l ++ List.replicate (m - k) 0).set k d = (l ++ [d]) ++ List.replicate (m - (k + 1)) 0 := by
  obtain ⟨j, hj⟩ := Nat.exists_eq_succ_of_ne_zero (show m - k ≠ 0 by omega)
  have e : m - (k + 1) = j := by omega
  rw [hj, e, List.replicate_succ, ← hl]
  simp
set_option maxRecDepth 20000 in
set_option maxHeartbeats 4000000 in
theorem sum_any (ao bo : Option Addr) (ca cb : Nat) (a b : List Int) (w : World) (ha : Rd w ao ca a) (hb : Rd w bo cb b) (h1 : a.length ≤ 1000) (h2 : b.length ≤ 1000) :
    Calls Try.prog 58 #[.slice ao a.length ca, .slice bo b.length cb] w fun e w' => ∃ g l, e = .returned (.slice (some ⟨g, 0, none⟩) l.length l.length) ∧ Rd w' (some ⟨g, 0, none⟩) l.length l ∧ vals l = vals a + vals b ∧ l.length = max a.length b.length + 1 ∧ Below w.heap.size w w' := by
  obtain ⟨i0, hi, hz0, hz1, hz2⟩ := info_parts Try.info80
  have hda := allD_of ha.dig
  have hdb := allD_of hb.dig
  have HE : Hid (∀ n, n = max a.length b.length + 1 → vals (sumD (dg a) (dg b) n) = vals a + vals b) := fun n hn => by
    subst hn
    exact sum_end a b _ (by omega) (by omega) (sumC_end a b (max a.length b.length) (by omega) (by omega) hda hdb)
  have HL := sumD_len (dg a) (dg b)
  have HI := sumD_isD (dg a) (dg b)
  by_cases hc : a.length < b.length
  · have w64n : wrap64 ((b.length : Int) + 1) = (b.length : Int) + 1 := by unfold wrap64; omega
    go_enter Try.func58, Try.ntmps58
    go_wp2_with (at_make; refine wpList_make_full _ rfl (.tmp 16) (.tmp 16) 49 rfl w.heap.size 80 i0 (.int .u32 0) 1 Try.underlying49 hi hz0 hz1 .i64 .i64 _ _ (b.length + 1) rfl rfl (by omega) (by omega) (by rw [hz2]; omega) (by unfold maxLen; omega) (by simp) ?_)
    intro w1 hown hgrow
    have hrow0 := Row.new hown
    have hbl0 : Below w.heap.size w w1 := ⟨hgrow.os, hgrow.tape, hgrow.output, hgrow.size, fun k hk => hgrow.block k hk (by simp)⟩
    clear hown hgrow w64n
    go_wp2
    go_loopw [7, 8] (fun vc vi wr => ∃ k : Nat, k ≤ b.length + 1 ∧ vi = .int .i64 k ∧ vc = .int .u64 (sumC (dg a) (dg b) k) ∧ Row wr w.heap.size (sumD (dg a) (dg b) k ++ List.replicate (b.length + 1 - k) 0) ∧ Below w.heap.size w wr) (fun _ vi _ => b.length + 1 - (intOf vi).toNat)
    case atStart => exact ⟨0, by omega, rfl, rfl, by simpa [sumD] using hrow0, hbl0⟩
    case round =>
      clear hrow0 hbl0
      obtain ⟨k, hk, rfl, rfl, hrow, hbl⟩ := hrel
      by_cases hend : k = b.length + 1
      · subst hend
        have E : Hid (vals (sumD (dg a) (dg b) (b.length + 1)) = vals a + vals b) := HE.out _ (by omega)
        rw [Nat.sub_self, List.replicate_zero, List.append_nil] at hrow
        have hR := hrow.rd (HI _) (by rw [HL]; omega)
        rw [HL] at hR
        go_wp2
        go_ret
        exact ⟨w.heap.size, sumD (dg a) (dg b) (b.length + 1), by rw [HL]; rfl, by rw [HL]; exact hR, E.out, by rw [HL]; omega, hbl⟩
      · have hlen : (sumD (dg a) (dg b) k ++ List.replicate (b.length + 1 - k) 0).length = b.length + 1 := by rw [List.length_append, HL, List.length_replicate]; omega
        obtain ⟨sc0, sc1⟩ := sumC_bd hda hdb k
        have HS : Hid (sumC (dg a) (dg b) k = sumC (dg a) (dg b) k) := rfl
        have da := hda k
        have db := hdb k
        unfold isD at da db
        generalize hSC : sumC (dg a) (dg b) k = SC at *
        replace HS : Hid (sumC (dg a) (dg b) k = SC) := hSC
        clear hSC
        have hk1 : k < b.length + 1 := by omega
        by_cases hka : k < a.length
        · by_cases hkb : k < b.length
          · have hx : Hid (dg a k + dg b k + SC = SC + dg a k + dg b k) := by unfold Hid; omega
            have e1 : IntKind.u64.wrap (dg a k) = dg a k := by rw [IntKind.wrap_u64]; omega
            have e2 : IntKind.u64.wrap (SC + dg a k) = SC + dg a k := by rw [IntKind.wrap_u64]; omega
            have e3 : IntKind.u64.wrap (dg b k) = dg b k := by rw [IntKind.wrap_u64]; omega
            have e4 : IntKind.u64.wrap (SC + dg a k + dg b k) = SC + dg a k + dg b k := by rw [IntKind.wrap_u64]; omega
            have e5 : Int.tmod (SC + dg a k + dg b k) 4294967296 = (SC + dg a k + dg b k) % 4294967296 := Int.tmod_eq_emod_of_nonneg (by omega)
            have e6 : Int.tdiv (SC + dg a k + dg b k) 4294967296 = (SC + dg a k + dg b k) / 4294967296 := Int.tdiv_eq_ediv_of_nonneg (by omega)
            have e7 : IntKind.u64.wrap ((SC + dg a k + dg b k) / 4294967296) = (SC + dg a k + dg b k) / 4294967296 := by rw [IntKind.wrap_u64]; omega
            have e8 : (SC + dg a k + dg b k) % 4294967296 % 4294967296 = (SC + dg a k + dg b k) % 4294967296 := by omega
            obtain ⟨xa, rfl⟩ := ha.has (by omega)
            have ca1 := (ha.mono hbl).at (i := k) hka
            obtain ⟨xb, rfl⟩ := hb.has (by omega)
            have cb1 := (hb.mono hbl).at (i := k) hkb
            have r1 := hrow.cell k (by rw [hlen]; omega)
            have rf := hrow.frozen k
            have HN : Hid (sumC (dg a) (dg b) (k + 1) = (SC + dg a k + dg b k) / 4294967296) := by unfold Hid; rw [sumC_succ, HS.out, hx.out]
            have HR := hrow.set k ((SC + dg a k + dg b k) % 4294967296)
            have HD : Hid ((sumD (dg a) (dg b) k ++ List.replicate (b.length + 1 - k) 0).set k ((SC + dg a k + dg b k) % 4294967296) = sumD (dg a) (dg b) (k + 1) ++ List.replicate (b.length + 1 - (k + 1)) 0) := by unfold Hid; rw [sumD_succ, HS.out, hx.out]; exact set_at (HL k) (by omega) _
            rw [HD.out] at HR
            clear HD
            clear sc0 sc1 da db
            generalize dg (sumD (dg a) (dg b) k ++ List.replicate (b.length + 1 - k) 0) k = old at *
            go_wp2
            go_roundw
            case rel => exact ⟨k + 1, by omega, by go_num, by rw [HN.out], HR, hbl.setCell (by simp only []; omega) _⟩
            case measure => simp [intOf]; omega
          · omega
        · by_cases hkb : k < b.length
          · have za : dg a k = 0 := dg_out a k (by omega)
            have hx : Hid (dg a k + dg b k + SC = SC + dg b k) := by unfold Hid; omega
            have e3 : IntKind.u64.wrap (dg b k) = dg b k := by rw [IntKind.wrap_u64]; omega
            have e4 : IntKind.u64.wrap (SC + dg b k) = SC + dg b k := by rw [IntKind.wrap_u64]; omega
            have e5 : Int.tmod (SC + dg b k) 4294967296 = (SC + dg b k) % 4294967296 := Int.tmod_eq_emod_of_nonneg (by omega)
            have e6 : Int.tdiv (SC + dg b k) 4294967296 = (SC + dg b k) / 4294967296 := Int.tdiv_eq_ediv_of_nonneg (by omega)
            have e7 : IntKind.u64.wrap ((SC + dg b k) / 4294967296) = (SC + dg b k) / 4294967296 := by rw [IntKind.wrap_u64]; omega
            have e8 : (SC + dg b k) % 4294967296 % 4294967296 = (SC + dg b k) % 4294967296 := by omega
            obtain ⟨xb, rfl⟩ := hb.has (by omega)
            have cb1 := (hb.mono hbl).at (i := k) hkb
            have r1 := hrow.cell k (by rw [hlen]; omega)
            have rf := hrow.frozen k
            have HN : Hid (sumC (dg a) (dg b) (k + 1) = (SC + dg b k) / 4294967296) := by unfold Hid; rw [sumC_succ, HS.out, hx.out]
            have HR := hrow.set k ((SC + dg b k) % 4294967296)
            have HD : Hid ((sumD (dg a) (dg b) k ++ List.replicate (b.length + 1 - k) 0).set k ((SC + dg b k) % 4294967296) = sumD (dg a) (dg b) (k + 1) ++ List.replicate (b.length + 1 - (k + 1)) 0) := by unfold Hid; rw [sumD_succ, HS.out, hx.out]; exact set_at (HL k) (by omega) _
            rw [HD.out] at HR
            clear HD
            clear za
            clear sc0 sc1 da db
            generalize dg (sumD (dg a) (dg b) k ++ List.replicate (b.length + 1 - k) 0) k = old at *
            go_wp2
            go_roundw
            case rel => exact ⟨k + 1, by omega, by go_num, by rw [HN.out], HR, hbl.setCell (by simp only []; omega) _⟩
            case measure => simp [intOf]; omega
          · have za : dg a k = 0 := dg_out a k (by omega)
            have zb : dg b k = 0 := dg_out b k (by omega)
            have hx : Hid (dg a k + dg b k + SC = SC) := by unfold Hid; omega
            have e5 : Int.tmod (SC) 4294967296 = (SC) % 4294967296 := Int.tmod_eq_emod_of_nonneg (by omega)
            have e6 : Int.tdiv (SC) 4294967296 = (SC) / 4294967296 := Int.tdiv_eq_ediv_of_nonneg (by omega)
            have e7 : IntKind.u64.wrap ((SC) / 4294967296) = (SC) / 4294967296 := by rw [IntKind.wrap_u64]; omega
            have e8 : (SC) % 4294967296 % 4294967296 = (SC) % 4294967296 := by omega
            have r1 := hrow.cell k (by rw [hlen]; omega)
            have rf := hrow.frozen k
            have HN : Hid (sumC (dg a) (dg b) (k + 1) = (SC) / 4294967296) := by unfold Hid; rw [sumC_succ, HS.out, hx.out]
            have HR := hrow.set k ((SC) % 4294967296)
            have HD : Hid ((sumD (dg a) (dg b) k ++ List.replicate (b.length + 1 - k) 0).set k ((SC) % 4294967296) = sumD (dg a) (dg b) (k + 1) ++ List.replicate (b.length + 1 - (k + 1)) 0) := by unfold Hid; rw [sumD_succ, HS.out, hx.out]; exact set_at (HL k) (by omega) _
            rw [HD.out] at HR
            clear HD
            clear za
            clear zb
            clear sc0 sc1 da db
            generalize dg (sumD (dg a) (dg b) k ++ List.replicate (b.length + 1 - k) 0) k = old at *
            go_wp2
            go_roundw
            case rel => exact ⟨k + 1, by omega, by go_num, by rw [HN.out], HR, hbl.setCell (by simp only []; omega) _⟩
            case measure => simp [intOf]; omega
  · have w64n : wrap64 ((a.length : Int) + 1) = (a.length : Int) + 1 := by unfold wrap64; omega
    go_enter Try.func58, Try.ntmps58
    go_wp2_with (at_make; refine wpList_make_full _ rfl (.tmp 16) (.tmp 16) 49 rfl w.heap.size 80 i0 (.int .u32 0) 1 Try.underlying49 hi hz0 hz1 .i64 .i64 _ _ (a.length + 1) rfl rfl (by omega) (by omega) (by rw [hz2]; omega) (by unfold maxLen; omega) (by simp) ?_)
    intro w1 hown hgrow
    have hrow0 := Row.new hown
    have hbl0 : Below w.heap.size w w1 := ⟨hgrow.os, hgrow.tape, hgrow.output, hgrow.size, fun k hk => hgrow.block k hk (by simp)⟩
    clear hown hgrow w64n
    go_wp2
    go_loopw [7, 8] (fun vc vi wr => ∃ k : Nat, k ≤ a.length + 1 ∧ vi = .int .i64 k ∧ vc = .int .u64 (sumC (dg a) (dg b) k) ∧ Row wr w.heap.size (sumD (dg a) (dg b) k ++ List.replicate (a.length + 1 - k) 0) ∧ Below w.heap.size w wr) (fun _ vi _ => a.length + 1 - (intOf vi).toNat)
    case atStart => exact ⟨0, by omega, rfl, rfl, by simpa [sumD] using hrow0, hbl0⟩
    case round =>
      clear hrow0 hbl0
      obtain ⟨k, hk, rfl, rfl, hrow, hbl⟩ := hrel
      by_cases hend : k = a.length + 1
      · subst hend
        have E : Hid (vals (sumD (dg a) (dg b) (a.length + 1)) = vals a + vals b) := HE.out _ (by omega)
        rw [Nat.sub_self, List.replicate_zero, List.append_nil] at hrow
        have hR := hrow.rd (HI _) (by rw [HL]; omega)
        rw [HL] at hR
        go_wp2
        go_ret
        exact ⟨w.heap.size, sumD (dg a) (dg b) (a.length + 1), by rw [HL]; rfl, by rw [HL]; exact hR, E.out, by rw [HL]; omega, hbl⟩
      · have hlen : (sumD (dg a) (dg b) k ++ List.replicate (a.length + 1 - k) 0).length = a.length + 1 := by rw [List.length_append, HL, List.length_replicate]; omega
        obtain ⟨sc0, sc1⟩ := sumC_bd hda hdb k
        have HS : Hid (sumC (dg a) (dg b) k = sumC (dg a) (dg b) k) := rfl
        have da := hda k
        have db := hdb k
        unfold isD at da db
        generalize hSC : sumC (dg a) (dg b) k = SC at *
        replace HS : Hid (sumC (dg a) (dg b) k = SC) := hSC
        clear hSC
        have hk1 : k < a.length + 1 := by omega
        by_cases hka : k < a.length
        · by_cases hkb : k < b.length
          · have hx : Hid (dg a k + dg b k + SC = SC + dg a k + dg b k) := by unfold Hid; omega
            have e1 : IntKind.u64.wrap (dg a k) = dg a k := by rw [IntKind.wrap_u64]; omega
            have e2 : IntKind.u64.wrap (SC + dg a k) = SC + dg a k := by rw [IntKind.wrap_u64]; omega
            have e3 : IntKind.u64.wrap (dg b k) = dg b k := by rw [IntKind.wrap_u64]; omega
            have e4 : IntKind.u64.wrap (SC + dg a k + dg b k) = SC + dg a k + dg b k := by rw [IntKind.wrap_u64]; omega
            have e5 : Int.tmod (SC + dg a k + dg b k) 4294967296 = (SC + dg a k + dg b k) % 4294967296 := Int.tmod_eq_emod_of_nonneg (by omega)
            have e6 : Int.tdiv (SC + dg a k + dg b k) 4294967296 = (SC + dg a k + dg b k) / 4294967296 := Int.tdiv_eq_ediv_of_nonneg (by omega)
            have e7 : IntKind.u64.wrap ((SC + dg a k + dg b k) / 4294967296) = (SC + dg a k + dg b k) / 4294967296 := by rw [IntKind.wrap_u64]; omega
            have e8 : (SC + dg a k + dg b k) % 4294967296 % 4294967296 = (SC + dg a k + dg b k) % 4294967296 := by omega
            obtain ⟨xa, rfl⟩ := ha.has (by omega)
            have ca1 := (ha.mono hbl).at (i := k) hka
            obtain ⟨xb, rfl⟩ := hb.has (by omega)
            have cb1 := (hb.mono hbl).at (i := k) hkb
            have r1 := hrow.cell k (by rw [hlen]; omega)
            have rf := hrow.frozen k
            have HN : Hid (sumC (dg a) (dg b) (k + 1) = (SC + dg a k + dg b k) / 4294967296) := by unfold Hid; rw [sumC_succ, HS.out, hx.out]
            have HR := hrow.set k ((SC + dg a k + dg b k) % 4294967296)
            have HD : Hid ((sumD (dg a) (dg b) k ++ List.replicate (a.length + 1 - k) 0).set k ((SC + dg a k + dg b k) % 4294967296) = sumD (dg a) (dg b) (k + 1) ++ List.replicate (a.length + 1 - (k + 1)) 0) := by unfold Hid; rw [sumD_succ, HS.out, hx.out]; exact set_at (HL k) (by omega) _
            rw [HD.out] at HR
            clear HD
            clear sc0 sc1 da db
            generalize dg (sumD (dg a) (dg b) k ++ List.replicate (a.length + 1 - k) 0) k = old at *
            go_wp2
            go_roundw
            case rel => exact ⟨k + 1, by omega, by go_num, by rw [HN.out], HR, hbl.setCell (by simp only []; omega) _⟩
            case measure => simp [intOf]; omega
          · have zb : dg b k = 0 := dg_out b k (by omega)
            have hx : Hid (dg a k + dg b k + SC = SC + dg a k) := by unfold Hid; omega
            have e1 : IntKind.u64.wrap (dg a k) = dg a k := by rw [IntKind.wrap_u64]; omega
            have e2 : IntKind.u64.wrap (SC + dg a k) = SC + dg a k := by rw [IntKind.wrap_u64]; omega
            have e5 : Int.tmod (SC + dg a k) 4294967296 = (SC + dg a k) % 4294967296 := Int.tmod_eq_emod_of_nonneg (by omega)
            have e6 : Int.tdiv (SC + dg a k) 4294967296 = (SC + dg a k) / 4294967296 := Int.tdiv_eq_ediv_of_nonneg (by omega)
            have e7 : IntKind.u64.wrap ((SC + dg a k) / 4294967296) = (SC + dg a k) / 4294967296 := by rw [IntKind.wrap_u64]; omega
            have e8 : (SC + dg a k) % 4294967296 % 4294967296 = (SC + dg a k) % 4294967296 := by omega
            obtain ⟨xa, rfl⟩ := ha.has (by omega)
            have ca1 := (ha.mono hbl).at (i := k) hka
            have r1 := hrow.cell k (by rw [hlen]; omega)
            have rf := hrow.frozen k
            have HN : Hid (sumC (dg a) (dg b) (k + 1) = (SC + dg a k) / 4294967296) := by unfold Hid; rw [sumC_succ, HS.out, hx.out]
            have HR := hrow.set k ((SC + dg a k) % 4294967296)
            have HD : Hid ((sumD (dg a) (dg b) k ++ List.replicate (a.length + 1 - k) 0).set k ((SC + dg a k) % 4294967296) = sumD (dg a) (dg b) (k + 1) ++ List.replicate (a.length + 1 - (k + 1)) 0) := by unfold Hid; rw [sumD_succ, HS.out, hx.out]; exact set_at (HL k) (by omega) _
            rw [HD.out] at HR
            clear HD
            clear zb
            clear sc0 sc1 da db
            generalize dg (sumD (dg a) (dg b) k ++ List.replicate (a.length + 1 - k) 0) k = old at *
            go_wp2
            go_roundw
            case rel => exact ⟨k + 1, by omega, by go_num, by rw [HN.out], HR, hbl.setCell (by simp only []; omega) _⟩
            case measure => simp [intOf]; omega
        · by_cases hkb : k < b.length
          · omega
          · have za : dg a k = 0 := dg_out a k (by omega)
            have zb : dg b k = 0 := dg_out b k (by omega)
            have hx : Hid (dg a k + dg b k + SC = SC) := by unfold Hid; omega
            have e5 : Int.tmod (SC) 4294967296 = (SC) % 4294967296 := Int.tmod_eq_emod_of_nonneg (by omega)
            have e6 : Int.tdiv (SC) 4294967296 = (SC) / 4294967296 := Int.tdiv_eq_ediv_of_nonneg (by omega)
            have e7 : IntKind.u64.wrap ((SC) / 4294967296) = (SC) / 4294967296 := by rw [IntKind.wrap_u64]; omega
            have e8 : (SC) % 4294967296 % 4294967296 = (SC) % 4294967296 := by omega
            have r1 := hrow.cell k (by rw [hlen]; omega)
            have rf := hrow.frozen k
            have HN : Hid (sumC (dg a) (dg b) (k + 1) = (SC) / 4294967296) := by unfold Hid; rw [sumC_succ, HS.out, hx.out]
            have HR := hrow.set k ((SC) % 4294967296)
            have HD : Hid ((sumD (dg a) (dg b) k ++ List.replicate (a.length + 1 - k) 0).set k ((SC) % 4294967296) = sumD (dg a) (dg b) (k + 1) ++ List.replicate (a.length + 1 - (k + 1)) 0) := by unfold Hid; rw [sumD_succ, HS.out, hx.out]; exact set_at (HL k) (by omega) _
            rw [HD.out] at HR
            clear HD
            clear za
            clear zb
            clear sc0 sc1 da db
            generalize dg (sumD (dg a) (dg b) k ++ List.replicate (a.length + 1 - k) 0) k = old at *
            go_wp2
            go_roundw
            case rel => exact ⟨k + 1, by omega, by go_num, by rw [HN.out], HR, hbl.setCell (by simp only []; omega) _⟩
            case measure => simp [intOf]; omega
end
section
open Go.RowKit Go.Sort

set_option maxRecDepth 20000 in
set_option maxHeartbeats 4000000 in
theorem less_any (ao bo : Option Addr) (ca cb : Nat) (a b : List Int) (w : World) (ha : Rd w ao ca a) (hb : Rd w bo cb b) (h1 : a.length ≤ 1000) (hnb : nrm b) (hba : vals b ≤ vals a) :
    Calls Try.prog 60 #[.slice ao a.length ca, .slice bo b.length cb] w fun e w' => ∃ g l, e = .returned (.slice (some ⟨g, 0, none⟩) l.length l.length) ∧ Rd w' (some ⟨g, 0, none⟩) l.length l ∧ vals l = vals a - vals b ∧ l.length = a.length ∧ Below w.heap.size w w' := by
  obtain ⟨i0, hi, hz0, hz1, hz2⟩ := info_parts Try.info80
  have hda := allD_of ha.dig
  have hdb := allD_of hb.dig
  have h2 := len_le hda hdb hnb hba
  have E : Hid (vals (difD (dg a) (dg b) a.length) = vals a - vals b) := dif_end hda hdb hnb hba
  have HL := difD_len (dg a) (dg b)
  have HI := difD_isD (dg a) (dg b)
  clear hnb hba
  go_enter Try.func60, Try.ntmps60
  go_wp2_with (at_make; refine wpList_make_full _ rfl (.tmp 10) (.tmp 10) 49 rfl w.heap.size 80 i0 (.int .u32 0) 1 Try.underlying49 hi hz0 hz1 .i64 .i64 _ _ a.length rfl rfl (by omega) (by omega) (by rw [hz2]; omega) (by unfold maxLen; omega) (by simp) ?_)
  intro w1 hown hgrow
  have hrow0 := Row.new hown
  have hbl0 : Below w.heap.size w w1 := ⟨hgrow.os, hgrow.tape, hgrow.output, hgrow.size, fun k hk => hgrow.block k hk (by simp)⟩
  clear hown hgrow
  go_wp2
  go_loopw [6, 7] (fun vc vi wr => ∃ k : Nat, k ≤ a.length ∧ vi = .int .i64 k ∧ vc = .int .u64 (difB (dg a) (dg b) k) ∧ Row wr w.heap.size (difD (dg a) (dg b) k ++ List.replicate (a.length - k) 0) ∧ Below w.heap.size w wr) (fun _ vi _ => a.length - (intOf vi).toNat)
  case atStart => exact ⟨0, by omega, rfl, rfl, by simpa [difD] using hrow0, hbl0⟩
  case round =>
    clear hrow0 hbl0
    obtain ⟨k, hk, rfl, rfl, hrow, hbl⟩ := hrel
    by_cases hend : k = a.length
    · subst hend
      rw [Nat.sub_self, List.replicate_zero, List.append_nil] at hrow
      have hR := hrow.rd (HI _) (by rw [HL]; omega)
      rw [HL] at hR
      go_wp2
      go_ret
      exact ⟨w.heap.size, difD (dg a) (dg b) a.length, by rw [HL]; rfl, by rw [HL]; exact hR, E.out, by rw [HL], hbl⟩
    · have hlen : (difD (dg a) (dg b) k ++ List.replicate (a.length - k) 0).length = a.length := by rw [List.length_append, HL, List.length_replicate]; omega
      obtain ⟨sc0, sc1⟩ := difB_bd hda hdb k
      have da := hda k
      have db := hdb k
      unfold isD at da db
      generalize hSC : difB (dg a) (dg b) k = DB at *
      have HS : Hid (difB (dg a) (dg b) k = DB) := hSC
      clear hSC
      have hka : k < a.length := by omega
      by_cases hkb : k < b.length
      · have hx : Hid (dg a k + 4294967296 - dg b k - DB = 4294967296 + dg a k - DB - dg b k) := by unfold Hid; omega
        have e1 : IntKind.u64.wrap (dg a k) = dg a k := by rw [IntKind.wrap_u64]; omega
        have e2 : IntKind.u64.wrap (4294967296 + dg a k) = 4294967296 + dg a k := by rw [IntKind.wrap_u64]; omega
        have e2' : IntKind.u64.wrap (4294967296 + dg a k - DB) = 4294967296 + dg a k - DB := by rw [IntKind.wrap_u64]; omega
        have e3 : IntKind.u64.wrap (dg b k) = dg b k := by rw [IntKind.wrap_u64]; omega
        have e4 : IntKind.u64.wrap (4294967296 + dg a k - DB - dg b k) = 4294967296 + dg a k - DB - dg b k := by rw [IntKind.wrap_u64]; omega
        have e5 : Int.tmod (4294967296 + dg a k - DB - dg b k) 4294967296 = (4294967296 + dg a k - DB - dg b k) % 4294967296 := Int.tmod_eq_emod_of_nonneg (by omega)
        have e6 : Int.tdiv (4294967296 + dg a k - DB - dg b k) 4294967296 = (4294967296 + dg a k - DB - dg b k) / 4294967296 := Int.tdiv_eq_ediv_of_nonneg (by omega)
        have e7 : IntKind.u64.wrap ((4294967296 + dg a k - DB - dg b k) / 4294967296) = (4294967296 + dg a k - DB - dg b k) / 4294967296 := by rw [IntKind.wrap_u64]; omega
        have e9 : IntKind.u64.wrap (1 - (4294967296 + dg a k - DB - dg b k) / 4294967296) = 1 - (4294967296 + dg a k - DB - dg b k) / 4294967296 := by rw [IntKind.wrap_u64]; omega
        have e8 : (4294967296 + dg a k - DB - dg b k) % 4294967296 % 4294967296 = (4294967296 + dg a k - DB - dg b k) % 4294967296 := by omega
        obtain ⟨xa, rfl⟩ := ha.has (by omega)
        have ca1 := (ha.mono hbl).at (i := k) hka
        obtain ⟨xb, rfl⟩ := hb.has (by omega)
        have cb1 := (hb.mono hbl).at (i := k) hkb
        have r1 := hrow.cell k (by rw [hlen]; omega)
        have rf := hrow.frozen k
        have HN : Hid (difB (dg a) (dg b) (k + 1) = 1 - (4294967296 + dg a k - DB - dg b k) / 4294967296) := by unfold Hid; rw [difB_succ, HS.out, hx.out]
        have HR := hrow.set k ((4294967296 + dg a k - DB - dg b k) % 4294967296)
        have HD : Hid ((difD (dg a) (dg b) k ++ List.replicate (a.length - k) 0).set k ((4294967296 + dg a k - DB - dg b k) % 4294967296) = difD (dg a) (dg b) (k + 1) ++ List.replicate (a.length - (k + 1)) 0) := by unfold Hid; rw [difD_succ, HS.out, hx.out]; exact set_at (HL k) (by omega) _
        rw [HD.out] at HR
        clear HD
        clear sc0 sc1 da db
        generalize dg (difD (dg a) (dg b) k ++ List.replicate (a.length - k) 0) k = old at *
        go_wp2
        go_roundw
        case rel => exact ⟨k + 1, by omega, by go_num, by rw [HN.out], HR, hbl.setCell (by simp only []; omega) _⟩
        case measure => simp [intOf]; omega
      · have zb : dg b k = 0 := dg_out b k (by omega)
        have hx : Hid (dg a k + 4294967296 - dg b k - DB = 4294967296 + dg a k - DB) := by unfold Hid; omega
        have e1 : IntKind.u64.wrap (dg a k) = dg a k := by rw [IntKind.wrap_u64]; omega
        have e2 : IntKind.u64.wrap (4294967296 + dg a k) = 4294967296 + dg a k := by rw [IntKind.wrap_u64]; omega
        have e2' : IntKind.u64.wrap (4294967296 + dg a k - DB) = 4294967296 + dg a k - DB := by rw [IntKind.wrap_u64]; omega
        have e5 : Int.tmod (4294967296 + dg a k - DB) 4294967296 = (4294967296 + dg a k - DB) % 4294967296 := Int.tmod_eq_emod_of_nonneg (by omega)
        have e6 : Int.tdiv (4294967296 + dg a k - DB) 4294967296 = (4294967296 + dg a k - DB) / 4294967296 := Int.tdiv_eq_ediv_of_nonneg (by omega)
        have e7 : IntKind.u64.wrap ((4294967296 + dg a k - DB) / 4294967296) = (4294967296 + dg a k - DB) / 4294967296 := by rw [IntKind.wrap_u64]; omega
        have e9 : IntKind.u64.wrap (1 - (4294967296 + dg a k - DB) / 4294967296) = 1 - (4294967296 + dg a k - DB) / 4294967296 := by rw [IntKind.wrap_u64]; omega
        have e8 : (4294967296 + dg a k - DB) % 4294967296 % 4294967296 = (4294967296 + dg a k - DB) % 4294967296 := by omega
        obtain ⟨xa, rfl⟩ := ha.has (by omega)
        have ca1 := (ha.mono hbl).at (i := k) hka
        have r1 := hrow.cell k (by rw [hlen]; omega)
        have rf := hrow.frozen k
        have HN : Hid (difB (dg a) (dg b) (k + 1) = 1 - (4294967296 + dg a k - DB) / 4294967296) := by unfold Hid; rw [difB_succ, HS.out, hx.out]
        have HR := hrow.set k ((4294967296 + dg a k - DB) % 4294967296)
        have HD : Hid ((difD (dg a) (dg b) k ++ List.replicate (a.length - k) 0).set k ((4294967296 + dg a k - DB) % 4294967296) = difD (dg a) (dg b) (k + 1) ++ List.replicate (a.length - (k + 1)) 0) := by unfold Hid; rw [difD_succ, HS.out, hx.out]; exact set_at (HL k) (by omega) _
        rw [HD.out] at HR
        clear HD
        clear zb
        clear sc0 sc1 da db
        generalize dg (difD (dg a) (dg b) k ++ List.replicate (a.length - k) 0) k = old at *
        go_wp2
        go_roundw
        case rel => exact ⟨k + 1, by omega, by go_num, by rw [HN.out], HR, hbl.setCell (by simp only []; omega) _⟩
        case measure => simp [intOf]; omega
end
section
open Go.RowKit Go.Sort

theorem hid' {p : Prop} (h : p) : Hid p := h
theorem sign_mul {m n : Int} : ((decide (m < 0) != decide (n < 0)) = true → m * n ≤ 0) ∧ ((decide (m < 0) != decide (n < 0)) = false → 0 ≤ m * n) := by
  by_cases h1 : m < 0 <;> by_cases h2 : n < 0 <;> simp [h1, h2]
  · exact Int.mul_nonneg_of_nonpos_of_nonpos (by omega) (by omega)
  · exact Int.mul_nonpos_of_nonpos_of_nonneg (by omega) (by omega)
  · exact Int.mul_nonpos_of_nonneg_of_nonpos (by omega) (by omega)
  · exact Int.mul_nonneg (by omega) (by omega)
theorem row_end {X : List Int} {p : Nat} {c x0 y : Int} (hp : p < X.length) (hz : dg X p = 0) (h : vals X + c * pw p = x0 + y) : vals (X.set p c) = x0 + y := by
  rw [vals_set X p c hp, hz, Int.sub_zero]; omega
theorem noughts_dg (n p : Nat) : dg (List.replicate n 0) p = 0 := by unfold dg; simp [List.getD, List.getElem?_replicate]; split <;> rfl
theorem Wh.mono2 {w w' : World} {b B : Nat} {x0 x1 : Value} (h : Wh w b x0 x1) (g : Below B w w') (hb : b < B) : Wh w' b x0 x1 := h.mono g hb
theorem Row.gr {w w' : World} {g : Nat} {X : List Int} (h : Row w g X) (b : Gr w w') : Row w' g X := h.mono b.below h.lt

set_option maxRecDepth 20000 in
set_option maxHeartbeats 4000000 in
theorem times_core (s t : Bool) (ao bo : Option Addr) (ca cb : Nat) (a b : List Int) (N : Int) (w : World) (ha : Rd w ao ca a) (hb : Rd w bo cb b) (h1 : a.length ≤ 400) (h2 : b.length ≤ 400)
    (hN : vals a * vals b = N.natAbs) (hs1 : (s != t) = true → N ≤ 0) (hs2 : (s != t) = false → 0 ≤ N) :
    Calls Try.prog 43 #[.agg #[.bool s, .slice ao a.length ca], .agg #[.bool t, .slice bo b.length cb]] w fun e w' => ∃ z, e = .returned z ∧ Nm w' z N (a.length + b.length) ∧ Below w.heap.size w w' := by
  obtain ⟨i0, hi, hz0, hz1, hz2⟩ := info_parts Try.info80
  have hda := allD_of ha.dig
  have hdb := allD_of hb.dig
  have k0 : Wh (((w.alloc (.cells #[.bool s, .slice ao a.length ca] 51)).alloc (.cells #[.bool t, .slice bo b.length cb] 51)).alloc (.cells #[.bool false, .slice none 0 0] 51)) w.heap.size (.bool s) (.slice ao a.length ca) := (Wh.new w _ _).gr (((Gr.refl _).alloc _).alloc _)
  have k1 : Wh (((w.alloc (.cells #[.bool s, .slice ao a.length ca] 51)).alloc (.cells #[.bool t, .slice bo b.length cb] 51)).alloc (.cells #[.bool false, .slice none 0 0] 51)) (w.heap.size + 1) (.bool t) (.slice bo b.length cb) := by
    have := (Wh.new (w.alloc (.cells #[.bool s, .slice ao a.length ca] 51)) (.bool t) (.slice bo b.length cb)).gr ((Gr.refl _).alloc (.cells #[.bool false, .slice none 0 0] 51))
    simpa using this
  have k2 : Wh (((w.alloc (.cells #[.bool s, .slice ao a.length ca] 51)).alloc (.cells #[.bool t, .slice bo b.length cb] 51)).alloc (.cells #[.bool false, .slice none 0 0] 51)) (w.heap.size + 1 + 1) (.bool false) (.slice none 0 0) := by
    have := Wh.new ((w.alloc (.cells #[.bool s, .slice ao a.length ca] 51)).alloc (.cells #[.bool t, .slice bo b.length cb] 51)) (.bool false) (.slice none 0 0)
    simpa using this
  have hW3 : (((w.alloc (.cells #[.bool s, .slice ao a.length ca] 51)).alloc (.cells #[.bool t, .slice bo b.length cb] 51)).alloc (.cells #[.bool false, .slice none 0 0] 51)).heap.size = w.heap.size + 1 + 1 + 1 := by simp
  have hG3 : Gr w (((w.alloc (.cells #[.bool s, .slice ao a.length ca] 51)).alloc (.cells #[.bool t, .slice bo b.length cb] 51)).alloc (.cells #[.bool false, .slice none 0 0] 51)) := (((Gr.refl _).alloc _).alloc _).alloc _
  go_enter Try.func43, Try.ntmps43
  go_wp2_with (at_make; refine wpList_make_full _ rfl (.tmp 16) (.tmp 16) 49 rfl (w.heap.size + 1 + 1 + 1) 80 i0 (.int .u32 0) 1 Try.underlying49 hi hz0 hz1 .i64 .i64 _ _ (a.length + b.length) rfl rfl (by omega) (by omega) (by rw [hz2]; omega) (by unfold maxLen; omega) (by simp) ?_)
  intro w1 hown hgrow
  have hrow0 := Row.new hown
  have hb1 : Below (w.heap.size + 1 + 1 + 1) (((w.alloc (.cells #[.bool s, .slice ao a.length ca] 51)).alloc (.cells #[.bool t, .slice bo b.length cb] 51)).alloc (.cells #[.bool false, .slice none 0 0] 51)) w1 := ⟨hgrow.os, hgrow.tape, hgrow.output, hgrow.size, fun k hk => hgrow.block k (by rw [hW3]; exact hk) (by simp)⟩
  clear hown hgrow
  have HA : Hid (∀ wr, Below (w.heap.size + 1 + 1 + 1) (((w.alloc (.cells #[.bool s, .slice ao a.length ca] 51)).alloc (.cells #[.bool t, .slice bo b.length cb] 51)).alloc (.cells #[.bool false, .slice none 0 0] 51)) wr → Rd wr ao ca a) := fun wr g => (ha.gr hG3).mono (by rw [hW3]; exact g)
  have HB : Hid (∀ wr, Below (w.heap.size + 1 + 1 + 1) (((w.alloc (.cells #[.bool s, .slice ao a.length ca] 51)).alloc (.cells #[.bool t, .slice bo b.length cb] 51)).alloc (.cells #[.bool false, .slice none 0 0] 51)) wr → Rd wr bo cb b) := fun wr g => (hb.gr hG3).mono (by rw [hW3]; exact g)
  have HF : Hid (∀ wr, Below (w.heap.size + 1 + 1 + 1) (((w.alloc (.cells #[.bool s, .slice ao a.length ca] 51)).alloc (.cells #[.bool t, .slice bo b.length cb] 51)).alloc (.cells #[.bool false, .slice none 0 0] 51)) wr → Below w.heap.size w wr) := fun wr g => hG3.below.trans (g.mono (by omega))
  have hA0 : 0 < a.length → ∃ x, ao = some ⟨x, 0, none⟩ := fun h => ha.has h
  have hB0 : 0 < b.length → ∃ x, bo = some ⟨x, 0, none⟩ := fun h => hb.has h
  clear ha hb hG3
  have HW3 : Hid ((((w.alloc (.cells #[.bool s, .slice ao a.length ca] 51)).alloc (.cells #[.bool t, .slice bo b.length cb] 51)).alloc (.cells #[.bool false, .slice none 0 0] 51)).heap.size = (w.heap.size + 1 + 1 + 1)) := hW3
  clear hW3
  generalize (((w.alloc (.cells #[.bool s, .slice ao a.length ca] 51)).alloc (.cells #[.bool t, .slice bo b.length cb] 51)).alloc (.cells #[.bool false, .slice none 0 0] 51)) = W at *
  have y0 := (k0.mono hb1 (by omega)).c1
  have y1 := (k1.mono hb1 (by omega)).c1
  go_wp2
  clear y0 y1
  go_loopw [6] (fun vi wr => ∃ (i : Nat) (X : List Int), i ≤ a.length ∧ vi = .int .i64 i ∧ Row wr (w.heap.size + 1 + 1 + 1) X ∧ X.length = a.length + b.length ∧ (∀ d ∈ X, isD d) ∧ Hid (vals X = vl (dg a) i * vals b) ∧ Hid (∀ p, i + b.length ≤ p → dg X p = 0) ∧ Below (w.heap.size + 1 + 1 + 1) W wr) (fun vi _ => a.length - (intOf vi).toNat)
  case atStart => exact ⟨0, _, by omega, rfl, hrow0, by simp, noughts_isD _, by unfold Hid; rw [vals_noughts, vl_zero, Int.zero_mul], fun p _ => noughts_dg _ p, hb1⟩
  case round =>
    clear hrow0 hb1
    obtain ⟨i, X, hi1, rfl, hrow, hlen, hD, hE, hZ, hbl⟩ := hrel
    have y0 := (k0.mono hbl (by omega)).c1
    have y1 := (k1.mono hbl (by omega)).c1
    by_cases hend : i = a.length
    · subst hend
      have E : vals X = N.natAbs := by rw [hE.out, ← hN]; rfl
      have M : Hid (Calls Try.prog 57 #[.bool (s != t), .slice (some ⟨(w.heap.size + 1 + 1 + 1), 0, none⟩) (a.length + b.length) (a.length + b.length)] wr fun e w' => ∃ z, e = .returned z ∧ Nm w' z N (a.length + b.length) ∧ Gr wr w') := by
        have h := made_num (s != t) (some ⟨(w.heap.size + 1 + 1 + 1), 0, none⟩) X.length X N X.length wr (hrow.rd hD (by omega)) E hs1 hs2 (Nat.le_refl _)
        rw [hlen] at h
        exact h
      have y2 := (k0.mono hbl (by omega)).c0
      have y3 := (k1.mono hbl (by omega)).c0
      have kr := k2.mono hbl (by omega)
      clear hE hZ hD hN hs1 hs2 hda hdb E
      go_wp2_with fail
      refine Calls.mono (by first | exact M.out | (have h := M.out; simpa using h)) ?_
      rintro e w2 ⟨z, rfl, hz, q2⟩
      obtain ⟨r1, o1, l1, c1, rfl, hz1⟩ := hz.shape
      clear hz M
      have hW := kr.gr q2
      have d0 := hW.c0
      have d1 := hW.c1
      have df := hW.f
      have hB2 := (HF.out wr hbl).trans (q2.below.mono (HF.out wr hbl).size)
      clear q2
      go_wp2
      refine bodyPost_ret (v := .agg #[.bool r1, .slice o1 l1 c1]) (by simp [results, Try.results43, go_sem, d0, d1]) rfl ⟨_, rfl, ?_, ?_⟩
      · exact hz1.out.setW hW _ _
      · exact (hB2.setCell (by simp only []; omega) _).setCell (by simp only []; omega) _
    · have hia : i < a.length := by omega
      obtain ⟨xa, rfl⟩ := hA0 (by omega)
      go_wp2
      go_loopw [7, 8] (fun vc vk wq => ∃ (j : Nat) (Y : List Int) (c : Int), j ≤ b.length ∧ vk = .int .i64 j ∧ vc = .int .u64 c ∧ isD c ∧ Row wq (w.heap.size + 1 + 1 + 1) Y ∧ Y.length = a.length + b.length ∧ (∀ d ∈ Y, isD d) ∧ Hid (vals Y + c * pw (i + j) = vl (dg a) i * vals b + dg a i * vl (dg b) j * pw i) ∧ Hid (∀ p, i + b.length ≤ p → dg Y p = 0) ∧ Below (w.heap.size + 1 + 1 + 1) W wq) (fun _ vk _ => b.length - (intOf vk).toNat)
      case atStart => exact ⟨0, X, 0, by omega, rfl, rfl, by unfold isD; omega, hrow, hlen, hD, by unfold Hid; rw [vl_zero, hE.out, Int.mul_zero, Int.zero_mul, Int.zero_mul], hZ, hbl⟩
      case round =>
        clear hrow hlen hD hE hZ hbl y0 y1
        obtain ⟨j, Y, c, hj1, rfl, rfl, hc, hrow, hlen, hD, hE, hZ, hbl⟩ := hrel
        have y0 := (k0.mono hbl (by omega)).c1
        have y1 := (k1.mono hbl (by omega)).c1
        by_cases hjend : j = b.length
        · subst hjend
          have r1 := hrow.cell (i + b.length) (by omega)
          have rf := hrow.frozen (i + b.length)
          have HR := hrow.set (i + b.length) c
          have HE : Hid (vals (Y.set (i + b.length) c) = vl (dg a) (i + 1) * vals b) := by
            unfold Hid
            rw [row_end (x0 := vl (dg a) i * vals b) (y := dg a i * vals b * pw i) (by omega) (hZ.out _ (Nat.le_refl _)) (by have := hE.out; exact this), vl_succ]
            grind
          have HZ : Hid (∀ p, i + 1 + b.length ≤ p → dg (Y.set (i + b.length) c) p = 0) := fun p hp => by
            rw [dg_set Y _ _ (by omega), if_neg (by omega)]; exact hZ.out p (by omega)
          have HD := set_isD hD (i + b.length) hc
          have HL : (Y.set (i + b.length) c).length = a.length + b.length := by rw [List.length_set]; exact hlen
          have hc' := hc
          unfold isD at hc'
          have e0 : c % 4294967296 = c := by omega
          clear hE hZ hD hda hdb hc
          generalize dg Y (i + b.length) = old at *
          replace HD := hid' HD
          replace HL := hid' HL
          replace HR := hid' HR
          clear hN hs1 hs2 HF HB k0 k1 k2 HW3
          go_wp2
          go_roundw
          case rel => exact ⟨i + 1, _, by omega, by go_num, HR.out, HL.out, HD.out, HE, HZ, hbl.setCell (by simp only []; omega) _⟩
          case measure => simp [intOf]; omega
        · have hjb : j < b.length := by omega
          obtain ⟨xb, rfl⟩ := hB0 (by omega)
          have ca1 := (HA.out _ hbl).at (i := i) hia
          have cb1 := (HB.out _ hbl).at (i := j) hjb
          have r1 := hrow.cell (i + j) (by omega)
          have rf := hrow.frozen (i + j)
          have e9 : wrap64 ((i : Int) + (j : Int)) = (i : Int) + (j : Int) := by unfold wrap64; omega
          have z1 : (i : Int) < (a.length : Int) := by omega
          have z2 : (j : Int) < (b.length : Int) := by omega
          have z3 : (i : Int) + (j : Int) < (a.length : Int) + (b.length : Int) := by omega
          have hDx := allD_of hD (i + j)
          have mc := mul_carry hDx (hda i) (hdb j) hc
          have ms := mul_step (X := Y) (i := i) (j := j) (c := c) (x0 := vl (dg a) i * vals b) (ai := dg a i) (vb := vl (dg b) j) (bj := dg b j) (by omega) hE.out
          rw [← vl_succ] at ms
          have HE : Hid (vals (Y.set (i + j) ((dg Y (i + j) + dg a i * dg b j + c) % 4294967296)) + (dg Y (i + j) + dg a i * dg b j + c) / 4294967296 * pw (i + (j + 1)) = vl (dg a) i * vals b + dg a i * vl (dg b) (j + 1) * pw i) := by unfold Hid; rw [← Nat.add_assoc]; exact ms
          have HZ : Hid (∀ p, i + b.length ≤ p → dg (Y.set (i + j) ((dg Y (i + j) + dg a i * dg b j + c) % 4294967296)) p = 0) := fun p hp => by
            rw [dg_set Y _ _ (by omega), if_neg (by omega)]; exact hZ.out p hp
          have HD := set_isD hD (i + j) mc.2.2.2
          have HL : (Y.set (i + j) ((dg Y (i + j) + dg a i * dg b j + c) % 4294967296)).length = a.length + b.length := by rw [List.length_set]; exact hlen
          have HC := mc.2.2.1
          have da := hda i
          have db := hdb j
          unfold isD at da db hDx
          have hc' := hc
          unfold isD at hc'
          obtain ⟨mc0, mc1, _⟩ := mc
          clear ms hE hZ hD hc
          generalize hAB : dg a i * dg b j = AB at *
          generalize hOld : dg Y (i + j) = old at *
          generalize dg a i = ai at *
          generalize dg b j = bj at *
          have q1 : IntKind.u64.wrap ai = ai := by rw [IntKind.wrap_u64]; omega
          have q2 : IntKind.u64.wrap bj = bj := by rw [IntKind.wrap_u64]; omega
          have q3 : IntKind.u64.wrap AB = AB := by rw [IntKind.wrap_u64]; omega
          have q4 : IntKind.u64.wrap old = old := by rw [IntKind.wrap_u64]; omega
          have q5 : IntKind.u64.wrap (AB + old) = AB + old := by rw [IntKind.wrap_u64]; omega
          have q6 : IntKind.u64.wrap (AB + old + c) = AB + old + c := by rw [IntKind.wrap_u64]; omega
          have q7 : Int.tmod (AB + old + c) 4294967296 = (old + AB + c) % 4294967296 := by rw [Int.tmod_eq_emod_of_nonneg (by omega), Int.add_comm AB old]
          have q8 : Int.tdiv (AB + old + c) 4294967296 = (old + AB + c) / 4294967296 := by rw [Int.tdiv_eq_ediv_of_nonneg (by omega), Int.add_comm AB old]
          have q9 : IntKind.u64.wrap ((old + AB + c) / 4294967296) = (old + AB + c) / 4294967296 := by rw [IntKind.wrap_u64]; omega
          have q10 : (old + AB + c) % 4294967296 % 4294967296 = (old + AB + c) % 4294967296 := by omega
          replace HD := hid' HD
          replace HL := hid' HL
          clear hOld hN hs1 hs2 HF HW3
          have HR0 := hrow
          generalize (old + AB + c) / 4294967296 = QQ at *
          generalize (old + AB + c) % 4294967296 = RR at *
          clear mc0 mc1 da db hDx hc'
          go_wp2
          go_quiet (fail)
          have gq : Gr wr (wr.drewN nq) := ⟨nq, #[], by rw [grow_empty]⟩
          have hrow1 := hrow.gr gq
          have hbl1 := hbl.trans (gq.below.mono (by have := hrow.lt; omega))
          replace r1 := below_cell r1 gq.below
          replace rf := hrow1.frozen (i + j)
          replace y1 := below_cell y1 gq.below
          have HR := hid' (hrow1.set (i + j) RR)
          clear ca1 cb1 y0 hrow hbl gq HR0 hrow1
          generalize wr.drewN nq = W5 at *
          go_wp2
          go_roundw
          case rel => exact ⟨j + 1, _, QQ, by omega, by go_num, rfl, HC, HR.out, HL.out, HD.out, HE, HZ, hbl1.setCell (by simp only []; omega) _⟩
          case measure => simp [intOf]; omega

theorem times_num (x y : Value) (m n : Int) (L M : Nat) (w : World) (hx : Nm w x m L) (hy : Nm w y n M) (hL : L ≤ 400) (hM : M ≤ 400) :
    Calls Try.prog 43 #[x, y] w fun e w' => ∃ z, e = .returned z ∧ Nm w' z (m * n) (L + M) ∧ Below w.heap.size w w' := by
  obtain ⟨ao, ca, a, rfl, ha, _, va, la⟩ := hx
  obtain ⟨bo, cb, b, rfl, hb, _, vb, lb⟩ := hy
  refine (times_core _ _ ao bo ca cb a b (m * n) w ha hb (by omega) (by omega) (by rw [va, vb, Int.natAbs_mul]; exact (Int.natCast_mul _ _).symm) sign_mul.1 sign_mul.2).mono ?_
  rintro e w' ⟨z, rfl, hz, g⟩
  exact ⟨z, rfl, hz.le (by omega), g⟩
end
section
open Go.RowKit Go.Sort

set_option maxRecDepth 20000 in
set_option maxHeartbeats 2000000 in
theorem plus_same (s t : Bool) (ao bo : Option Addr) (ca cb : Nat) (a b : List Int) (N : Int) (w : World) (ha : Rd w ao ca a) (hb : Rd w bo cb b) (h1 : a.length ≤ 400) (h2 : b.length ≤ 400) (hst : (s == t) = true)
    (hN : vals a + vals b = N.natAbs) (hs1 : s = true → N ≤ 0) (hs2 : s = false → 0 ≤ N) :
    Calls Try.prog 46 #[.agg #[.bool s, .slice ao a.length ca], .agg #[.bool t, .slice bo b.length cb]] w fun e w' => ∃ z, e = .returned z ∧ Nm w' z N (max a.length b.length + 1) ∧ Below w.heap.size w w' := by
  have k0 : Wh (((w.alloc (.cells #[.bool s, .slice ao a.length ca] 51)).alloc (.cells #[.bool t, .slice bo b.length cb] 51)).alloc (.cells #[.bool false, .slice none 0 0] 51)) w.heap.size (.bool s) (.slice ao a.length ca) := (Wh.new w _ _).gr (((Gr.refl _).alloc _).alloc _)
  have k1 : Wh (((w.alloc (.cells #[.bool s, .slice ao a.length ca] 51)).alloc (.cells #[.bool t, .slice bo b.length cb] 51)).alloc (.cells #[.bool false, .slice none 0 0] 51)) (w.heap.size + 1) (.bool t) (.slice bo b.length cb) := by
    have := (Wh.new (w.alloc (.cells #[.bool s, .slice ao a.length ca] 51)) (.bool t) (.slice bo b.length cb)).gr ((Gr.refl _).alloc (.cells #[.bool false, .slice none 0 0] 51))
    simpa using this
  have k2 : Wh (((w.alloc (.cells #[.bool s, .slice ao a.length ca] 51)).alloc (.cells #[.bool t, .slice bo b.length cb] 51)).alloc (.cells #[.bool false, .slice none 0 0] 51)) (w.heap.size + 1 + 1) (.bool false) (.slice none 0 0) := by
    have := Wh.new ((w.alloc (.cells #[.bool s, .slice ao a.length ca] 51)).alloc (.cells #[.bool t, .slice bo b.length cb] 51)) (.bool false) (.slice none 0 0)
    simpa using this
  have hG3 : Gr w (((w.alloc (.cells #[.bool s, .slice ao a.length ca] 51)).alloc (.cells #[.bool t, .slice bo b.length cb] 51)).alloc (.cells #[.bool false, .slice none 0 0] 51)) := (((Gr.refl _).alloc _).alloc _).alloc _
  have hsz : w.heap.size + 1 + 1 ≤ (((w.alloc (.cells #[.bool s, .slice ao a.length ca] 51)).alloc (.cells #[.bool t, .slice bo b.length cb] 51)).alloc (.cells #[.bool false, .slice none 0 0] 51)).heap.size := by simp
  go_enter Try.func46, Try.ntmps46
  go_upto_region 2 with fail
  have HA : Hid (Rd (((w.alloc (.cells #[.bool s, .slice ao a.length ca] 51)).alloc (.cells #[.bool t, .slice bo b.length cb] 51)).alloc (.cells #[.bool false, .slice none 0 0] 51)).drew ao ca a) := ha.mono (hG3.drew).below
  have HB : Hid (Rd (((w.alloc (.cells #[.bool s, .slice ao a.length ca] 51)).alloc (.cells #[.bool t, .slice bo b.length cb] 51)).alloc (.cells #[.bool false, .slice none 0 0] 51)).drew bo cb b) := hb.mono (hG3.drew).below
  have hF0 := hG3.below
  have HN : Hid (vals a + vals b = N.natAbs) := hN
  clear ha hb hN hG3
  have hK : w.heap.size + 1 + 1 ≤ (((w.alloc (.cells #[.bool s, .slice ao a.length ca] 51)).alloc (.cells #[.bool t, .slice bo b.length cb] 51)).alloc (.cells #[.bool false, .slice none 0 0] 51)).heap.size := hsz
  clear hsz
  generalize (((w.alloc (.cells #[.bool s, .slice ao a.length ca] 51)).alloc (.cells #[.bool t, .slice bo b.length cb] 51)).alloc (.cells #[.bool false, .slice none 0 0] 51)) = W at *
  have hS0 : Hid (S4 ⟨w.heap.size, 0, none⟩ ⟨w.heap.size, 1, none⟩ ⟨w.heap.size + 1, 0, none⟩ ⟨w.heap.size + 1, 1, none⟩ (.bool s) (.slice ao a.length ca) (.bool t) (.slice bo b.length cb) (w.heap.size + 1 + 1) W W.drew) := ⟨k0.c0, k0.c1, k1.c0, k1.c1, (Below.refl _ _).drew⟩
  have kd : Wh W.drew (w.heap.size + 1 + 1) (.bool false) (.slice none 0 0) := k2
  go_region_held3 (S4 ⟨w.heap.size, 0, none⟩ ⟨w.heap.size, 1, none⟩ ⟨w.heap.size + 1, 0, none⟩ ⟨w.heap.size + 1, 1, none⟩ (.bool s) (.slice ao a.length ca) (.bool t) (.slice bo b.length cb) (w.heap.size + 1 + 1) W)
    (repeat (first | with_reducible exact hS2.out | with_reducible exact hS1.out | with_reducible exact hS0.out | (with_reducible refine S4.set ?_ (by simp only []; omega) (by simp only []; omega) (by simp only []; omega) (by simp only []; omega) (by simp only []; omega) _)))
    (first
      | (go_at_call 58; refine (sum_any ao bo ca cb a b _ HA.out HB.out (by omega) (by omega)).mono ?_; rintro e y1 ⟨g, l, rfl, hl, hv, hlen, hb1⟩; have hS1 : Hid (S4 ⟨w.heap.size, 0, none⟩ ⟨w.heap.size, 1, none⟩ ⟨w.heap.size + 1, 0, none⟩ ⟨w.heap.size + 1, 1, none⟩ (.bool s) (.slice ao a.length ca) (.bool t) (.slice bo b.length cb) (w.heap.size + 1 + 1) W y1) := S4.call hS0.out hK hb1; have kd1 := kd.mono hb1 kd.lt; have hl' := hid' hl; have hvN : Hid (vals l = (N).natAbs) := hid' (by rw [hv, HN.out]); have hLn : Hid (l.length ≤ max a.length b.length + 1) := hid' (by omega); clear hl hv hlen hb1)
      | (go_at_call 57; refine (made_num s (some ⟨g, 0, none⟩) l.length l (N) (max a.length b.length + 1) y1 hl'.out hvN.out hs1 hs2 hLn.out).mono ?_; rintro e y2 ⟨z, rfl, hz, q2⟩; obtain ⟨r1, o1, l1, c1, rfl, hz1⟩ := hz.shape; clear hz; have hS2 : Hid (S4 ⟨w.heap.size, 0, none⟩ ⟨w.heap.size, 1, none⟩ ⟨w.heap.size + 1, 0, none⟩ ⟨w.heap.size + 1, 1, none⟩ (.bool s) (.slice ao a.length ca) (.bool t) (.slice bo b.length cb) (w.heap.size + 1 + 1) W y2) := S4.call hS1.out hK q2.below; have kd2 := kd1.gr q2; have d0 := kd2.c0; have d1 := kd2.c1; have df := kd2.f))
  all_goals
    have hB2 := hid' (hF0.trans (hS2.out.2.2.2.2.mono (by omega)))
    go_wp2
    refine bodyPost_ret (v := .agg #[.bool r1, .slice o1 l1 c1]) (by simp [results, Try.results46, go_sem, d0, d1]) rfl ⟨_, rfl, ?_, ?_⟩
    · exact hz1.out.setW kd2 _ _
    · exact (hB2.out.setCell (by simp only []; omega) _).setCell (by simp only []; omega) _
set_option maxRecDepth 20000 in
set_option maxHeartbeats 2000000 in
theorem plus_ge (s t : Bool) (ao bo : Option Addr) (ca cb : Nat) (a b : List Int) (N : Int) (w : World) (ha : Rd w ao ca a) (hb : Rd w bo cb b) (h1 : a.length ≤ 400) (_h2 : b.length ≤ 400) (hst : (s == t) = false) (na : nrm a) (nb : nrm b) (hc : vals b ≤ vals a)
    (hN : vals a - vals b = N.natAbs) (hs1 : s = true → N ≤ 0) (hs2 : s = false → 0 ≤ N) :
    Calls Try.prog 46 #[.agg #[.bool s, .slice ao a.length ca], .agg #[.bool t, .slice bo b.length cb]] w fun e w' => ∃ z, e = .returned z ∧ Nm w' z N (max a.length b.length + 1) ∧ Below w.heap.size w w' := by
  have hcm : (0 : Int) ≤ cmpI (vals a) (vals b) := by unfold cmpI; rw [if_neg (by omega)]; split <;> omega
  have k0 : Wh (((w.alloc (.cells #[.bool s, .slice ao a.length ca] 51)).alloc (.cells #[.bool t, .slice bo b.length cb] 51)).alloc (.cells #[.bool false, .slice none 0 0] 51)) w.heap.size (.bool s) (.slice ao a.length ca) := (Wh.new w _ _).gr (((Gr.refl _).alloc _).alloc _)
  have k1 : Wh (((w.alloc (.cells #[.bool s, .slice ao a.length ca] 51)).alloc (.cells #[.bool t, .slice bo b.length cb] 51)).alloc (.cells #[.bool false, .slice none 0 0] 51)) (w.heap.size + 1) (.bool t) (.slice bo b.length cb) := by
    have := (Wh.new (w.alloc (.cells #[.bool s, .slice ao a.length ca] 51)) (.bool t) (.slice bo b.length cb)).gr ((Gr.refl _).alloc (.cells #[.bool false, .slice none 0 0] 51))
    simpa using this
  have k2 : Wh (((w.alloc (.cells #[.bool s, .slice ao a.length ca] 51)).alloc (.cells #[.bool t, .slice bo b.length cb] 51)).alloc (.cells #[.bool false, .slice none 0 0] 51)) (w.heap.size + 1 + 1) (.bool false) (.slice none 0 0) := by
    have := Wh.new ((w.alloc (.cells #[.bool s, .slice ao a.length ca] 51)).alloc (.cells #[.bool t, .slice bo b.length cb] 51)) (.bool false) (.slice none 0 0)
    simpa using this
  have hG3 : Gr w (((w.alloc (.cells #[.bool s, .slice ao a.length ca] 51)).alloc (.cells #[.bool t, .slice bo b.length cb] 51)).alloc (.cells #[.bool false, .slice none 0 0] 51)) := (((Gr.refl _).alloc _).alloc _).alloc _
  have hsz : w.heap.size + 1 + 1 ≤ (((w.alloc (.cells #[.bool s, .slice ao a.length ca] 51)).alloc (.cells #[.bool t, .slice bo b.length cb] 51)).alloc (.cells #[.bool false, .slice none 0 0] 51)).heap.size := by simp
  go_enter Try.func46, Try.ntmps46
  have LW := low_any ao bo ca cb a b (((w.alloc (.cells #[.bool s, .slice ao a.length ca] 51)).alloc (.cells #[.bool t, .slice bo b.length cb] 51)).alloc (.cells #[.bool false, .slice none 0 0] 51)) (ha.gr hG3) (hb.gr hG3) na nb
  go_wp2_with fail
  refine LW.mono ?_
  clear LW
  rintro e w0 ⟨rfl, g0⟩
  replace k0 := k0.gr g0
  replace k1 := k1.gr g0
  replace k2 := k2.gr g0
  replace hG3 := hG3.trans g0
  have hK : w.heap.size + 1 + 1 ≤ w0.heap.size := by have := g0.size; omega
  clear hsz g0
  generalize cmpI (vals a) (vals b) = CM at *
  go_upto_region 4 with fail
  have HA : Hid (Rd w0.drew ao ca a) := ha.mono (hG3.drew).below
  have HB : Hid (Rd w0.drew bo cb b) := hb.mono (hG3.drew).below
  have hF0 := hG3.below
  have HN : Hid (vals a - vals b = N.natAbs) := hN
  clear ha hb hN hG3
  have hS0 : Hid (S4 ⟨w.heap.size, 0, none⟩ ⟨w.heap.size, 1, none⟩ ⟨w.heap.size + 1, 0, none⟩ ⟨w.heap.size + 1, 1, none⟩ (.bool s) (.slice ao a.length ca) (.bool t) (.slice bo b.length cb) (w.heap.size + 1 + 1) w0 w0.drew) := ⟨k0.c0, k0.c1, k1.c0, k1.c1, (Below.refl _ _).drew⟩
  have kd : Wh w0.drew (w.heap.size + 1 + 1) (.bool false) (.slice none 0 0) := k2
  go_region_held3 (S4 ⟨w.heap.size, 0, none⟩ ⟨w.heap.size, 1, none⟩ ⟨w.heap.size + 1, 0, none⟩ ⟨w.heap.size + 1, 1, none⟩ (.bool s) (.slice ao a.length ca) (.bool t) (.slice bo b.length cb) (w.heap.size + 1 + 1) w0)
    (repeat (first | with_reducible exact hS2.out | with_reducible exact hS1.out | with_reducible exact hS0.out | (with_reducible refine S4.set ?_ (by simp only []; omega) (by simp only []; omega) (by simp only []; omega) (by simp only []; omega) (by simp only []; omega) _)))
    (first
      | (go_at_call 60; refine (less_any ao bo ca cb a b _ HA.out HB.out (by omega) nb hc).mono ?_; rintro e y1 ⟨g, l, rfl, hl, hv, hlen, hb1⟩; have hS1 : Hid (S4 ⟨w.heap.size, 0, none⟩ ⟨w.heap.size, 1, none⟩ ⟨w.heap.size + 1, 0, none⟩ ⟨w.heap.size + 1, 1, none⟩ (.bool s) (.slice ao a.length ca) (.bool t) (.slice bo b.length cb) (w.heap.size + 1 + 1) w0 y1) := S4.call hS0.out hK hb1; have kd1 := kd.mono hb1 kd.lt; have hl' := hid' hl; have hvN : Hid (vals l = (N).natAbs) := hid' (by rw [hv, HN.out]); have hLn : Hid (l.length ≤ max a.length b.length + 1) := hid' (by omega); clear hl hv hlen hb1)
      | (go_at_call 57; refine (made_num s (some ⟨g, 0, none⟩) l.length l (N) (max a.length b.length + 1) y1 hl'.out hvN.out hs1 hs2 hLn.out).mono ?_; rintro e y2 ⟨z, rfl, hz, q2⟩; obtain ⟨r1, o1, l1, c1, rfl, hz1⟩ := hz.shape; clear hz; have hS2 : Hid (S4 ⟨w.heap.size, 0, none⟩ ⟨w.heap.size, 1, none⟩ ⟨w.heap.size + 1, 0, none⟩ ⟨w.heap.size + 1, 1, none⟩ (.bool s) (.slice ao a.length ca) (.bool t) (.slice bo b.length cb) (w.heap.size + 1 + 1) w0 y2) := S4.call hS1.out hK q2.below; have kd2 := kd1.gr q2; have d0 := kd2.c0; have d1 := kd2.c1; have df := kd2.f))
  all_goals
    have hB2 := hid' (hF0.trans (hS2.out.2.2.2.2.mono (by omega)))
    go_wp2
    refine bodyPost_ret (v := .agg #[.bool r1, .slice o1 l1 c1]) (by simp [results, Try.results46, go_sem, d0, d1]) rfl ⟨_, rfl, ?_, ?_⟩
    · exact hz1.out.setW kd2 _ _
    · exact (hB2.out.setCell (by simp only []; omega) _).setCell (by simp only []; omega) _
set_option maxRecDepth 20000 in
set_option maxHeartbeats 2000000 in
theorem plus_lt (s t : Bool) (ao bo : Option Addr) (ca cb : Nat) (a b : List Int) (N : Int) (w : World) (ha : Rd w ao ca a) (hb : Rd w bo cb b) (_h1 : a.length ≤ 400) (h2 : b.length ≤ 400) (hst : (s == t) = false) (na : nrm a) (nb : nrm b) (hc : vals a < vals b)
    (hN : vals b - vals a = N.natAbs) (hs1 : t = true → N ≤ 0) (hs2 : t = false → 0 ≤ N) :
    Calls Try.prog 46 #[.agg #[.bool s, .slice ao a.length ca], .agg #[.bool t, .slice bo b.length cb]] w fun e w' => ∃ z, e = .returned z ∧ Nm w' z N (max a.length b.length + 1) ∧ Below w.heap.size w w' := by
  have hcm : cmpI (vals a) (vals b) < 0 := by unfold cmpI; rw [if_pos hc]; omega
  have k0 : Wh (((w.alloc (.cells #[.bool s, .slice ao a.length ca] 51)).alloc (.cells #[.bool t, .slice bo b.length cb] 51)).alloc (.cells #[.bool false, .slice none 0 0] 51)) w.heap.size (.bool s) (.slice ao a.length ca) := (Wh.new w _ _).gr (((Gr.refl _).alloc _).alloc _)
  have k1 : Wh (((w.alloc (.cells #[.bool s, .slice ao a.length ca] 51)).alloc (.cells #[.bool t, .slice bo b.length cb] 51)).alloc (.cells #[.bool false, .slice none 0 0] 51)) (w.heap.size + 1) (.bool t) (.slice bo b.length cb) := by
    have := (Wh.new (w.alloc (.cells #[.bool s, .slice ao a.length ca] 51)) (.bool t) (.slice bo b.length cb)).gr ((Gr.refl _).alloc (.cells #[.bool false, .slice none 0 0] 51))
    simpa using this
  have k2 : Wh (((w.alloc (.cells #[.bool s, .slice ao a.length ca] 51)).alloc (.cells #[.bool t, .slice bo b.length cb] 51)).alloc (.cells #[.bool false, .slice none 0 0] 51)) (w.heap.size + 1 + 1) (.bool false) (.slice none 0 0) := by
    have := Wh.new ((w.alloc (.cells #[.bool s, .slice ao a.length ca] 51)).alloc (.cells #[.bool t, .slice bo b.length cb] 51)) (.bool false) (.slice none 0 0)
    simpa using this
  have hG3 : Gr w (((w.alloc (.cells #[.bool s, .slice ao a.length ca] 51)).alloc (.cells #[.bool t, .slice bo b.length cb] 51)).alloc (.cells #[.bool false, .slice none 0 0] 51)) := (((Gr.refl _).alloc _).alloc _).alloc _
  have hsz : w.heap.size + 1 + 1 ≤ (((w.alloc (.cells #[.bool s, .slice ao a.length ca] 51)).alloc (.cells #[.bool t, .slice bo b.length cb] 51)).alloc (.cells #[.bool false, .slice none 0 0] 51)).heap.size := by simp
  go_enter Try.func46, Try.ntmps46
  have LW := low_any ao bo ca cb a b (((w.alloc (.cells #[.bool s, .slice ao a.length ca] 51)).alloc (.cells #[.bool t, .slice bo b.length cb] 51)).alloc (.cells #[.bool false, .slice none 0 0] 51)) (ha.gr hG3) (hb.gr hG3) na nb
  go_wp2_with fail
  refine LW.mono ?_
  clear LW
  rintro e w0 ⟨rfl, g0⟩
  replace k0 := k0.gr g0
  replace k1 := k1.gr g0
  replace k2 := k2.gr g0
  replace hG3 := hG3.trans g0
  have hK : w.heap.size + 1 + 1 ≤ w0.heap.size := by have := g0.size; omega
  clear hsz g0
  generalize cmpI (vals a) (vals b) = CM at *
  go_upto_region 5 with fail
  have HA : Hid (Rd w0.drew ao ca a) := ha.mono (hG3.drew).below
  have HB : Hid (Rd w0.drew bo cb b) := hb.mono (hG3.drew).below
  have hF0 := hG3.below
  have HN : Hid (vals b - vals a = N.natAbs) := hN
  clear ha hb hN hG3
  have hS0 : Hid (S4 ⟨w.heap.size, 0, none⟩ ⟨w.heap.size, 1, none⟩ ⟨w.heap.size + 1, 0, none⟩ ⟨w.heap.size + 1, 1, none⟩ (.bool s) (.slice ao a.length ca) (.bool t) (.slice bo b.length cb) (w.heap.size + 1 + 1) w0 w0.drew) := ⟨k0.c0, k0.c1, k1.c0, k1.c1, (Below.refl _ _).drew⟩
  have kd : Wh w0.drew (w.heap.size + 1 + 1) (.bool false) (.slice none 0 0) := k2
  go_region_held3 (S4 ⟨w.heap.size, 0, none⟩ ⟨w.heap.size, 1, none⟩ ⟨w.heap.size + 1, 0, none⟩ ⟨w.heap.size + 1, 1, none⟩ (.bool s) (.slice ao a.length ca) (.bool t) (.slice bo b.length cb) (w.heap.size + 1 + 1) w0)
    (repeat (first | with_reducible exact hS2.out | with_reducible exact hS1.out | with_reducible exact hS0.out | (with_reducible refine S4.set ?_ (by simp only []; omega) (by simp only []; omega) (by simp only []; omega) (by simp only []; omega) (by simp only []; omega) _)))
    (first
      | (go_at_call 60; refine (less_any bo ao cb ca b a _ HB.out HA.out (by omega) na (by omega)).mono ?_; rintro e y1 ⟨g, l, rfl, hl, hv, hlen, hb1⟩; have hS1 : Hid (S4 ⟨w.heap.size, 0, none⟩ ⟨w.heap.size, 1, none⟩ ⟨w.heap.size + 1, 0, none⟩ ⟨w.heap.size + 1, 1, none⟩ (.bool s) (.slice ao a.length ca) (.bool t) (.slice bo b.length cb) (w.heap.size + 1 + 1) w0 y1) := S4.call hS0.out hK hb1; have kd1 := kd.mono hb1 kd.lt; have hl' := hid' hl; have hvN : Hid (vals l = (N).natAbs) := hid' (by rw [hv, HN.out]); have hLn : Hid (l.length ≤ max a.length b.length + 1) := hid' (by omega); clear hl hv hlen hb1)
      | (go_at_call 57; refine (made_num t (some ⟨g, 0, none⟩) l.length l (N) (max a.length b.length + 1) y1 hl'.out hvN.out hs1 hs2 hLn.out).mono ?_; rintro e y2 ⟨z, rfl, hz, q2⟩; obtain ⟨r1, o1, l1, c1, rfl, hz1⟩ := hz.shape; clear hz; have hS2 : Hid (S4 ⟨w.heap.size, 0, none⟩ ⟨w.heap.size, 1, none⟩ ⟨w.heap.size + 1, 0, none⟩ ⟨w.heap.size + 1, 1, none⟩ (.bool s) (.slice ao a.length ca) (.bool t) (.slice bo b.length cb) (w.heap.size + 1 + 1) w0 y2) := S4.call hS1.out hK q2.below; have kd2 := kd1.gr q2; have d0 := kd2.c0; have d1 := kd2.c1; have df := kd2.f))
  all_goals
    have hB2 := hid' (hF0.trans (hS2.out.2.2.2.2.mono (by omega)))
    go_wp2
    refine bodyPost_ret (v := .agg #[.bool r1, .slice o1 l1 c1]) (by simp [results, Try.results46, go_sem, d0, d1]) rfl ⟨_, rfl, ?_, ?_⟩
    · exact hz1.out.setW kd2 _ _
    · exact (hB2.out.setCell (by simp only []; omega) _).setCell (by simp only []; omega) _

theorem plus_num (x y : Value) (m n : Int) (L M : Nat) (w : World) (hx : Nm w x m L) (hy : Nm w y n M) (hL : L ≤ 400) (hM : M ≤ 400) :
    Calls Try.prog 46 #[x, y] w fun e w' => ∃ z, e = .returned z ∧ Nm w' z (m + n) (max L M + 1) ∧ Below w.heap.size w w' := by
  obtain ⟨ao, ca, a, rfl, ha, na, va, la⟩ := hx
  obtain ⟨bo, cb, b, rfl, hb, nb, vb, lb⟩ := hy
  have fin : ∀ {e : Ending} {w' : World}, (∃ z, e = .returned z ∧ Nm w' z (m + n) (max a.length b.length + 1) ∧ Below w.heap.size w w') → ∃ z, e = .returned z ∧ Nm w' z (m + n) (max L M + 1) ∧ Below w.heap.size w w' := by
    rintro e w' ⟨z, rfl, hz, g⟩
    exact ⟨z, rfl, hz.le (by omega), g⟩
  by_cases hst : (decide (m < 0) == decide (n < 0)) = true
  · have hs : decide (m < 0) = decide (n < 0) := by simpa using hst
    rw [decide_eq_decide] at hs
    exact (plus_same _ _ ao bo ca cb a b (m + n) w ha hb (by omega) (by omega) hst (by omega) (fun h => by simp at h; omega) (fun h => by simp at h; omega)).mono fun e w' h => fin h
  · have hst' : (decide (m < 0) == decide (n < 0)) = false := by simpa using hst
    have hs : ¬ (m < 0 ↔ n < 0) := fun k => hst (by have q : decide (m < 0) = decide (n < 0) := decide_eq_decide.mpr k; rw [q]; simp)
    by_cases hc : vals b ≤ vals a
    · exact (plus_ge _ _ ao bo ca cb a b (m + n) w ha hb (by omega) (by omega) hst' na nb hc (by omega) (fun h => by simp at h; omega) (fun h => by simp at h; omega)).mono fun e w' h => fin h
    · exact (plus_lt _ _ ao bo ca cb a b (m + n) w ha hb (by omega) (by omega) hst' na nb (by omega) (by omega) (fun h => by simp at h; omega) (fun h => by simp at h; omega)).mono fun e w' h => fin h
end
end Go.Proofs.Ytagabccaipfjeaa

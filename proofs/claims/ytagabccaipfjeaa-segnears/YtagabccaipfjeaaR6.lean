/- Contract of the reference's difference of two rows of words. -/
import Derived.Test.YtagabccaipfjeaaR5
namespace Go.Proofs.Ytagabccaipfjeaa
open Go.RowKit Go.Sort

set_option maxRecDepth 20000 in
set_option maxHeartbeats 4000000 in
theorem less_any (ao bo : Option Addr) (ca cb : Nat) (a b : List Int) (w : World) (ha : Rd w ao ca a) (hb : Rd w bo cb b) (h1 : a.length ≤ 1000) (hnb : nrm b) (hba : vals b ≤ vals a) :
    Calls Try.prog 60 #[.slice ao a.length ca, .slice bo b.length cb] w fun e w' => ∃ g l, e = .returned (.slice (some ⟨g, 0, none⟩) l.length l.length) ∧ Rd w' (some ⟨g, 0, none⟩) l.length l ∧ vals l = vals a - vals b ∧ l.length = a.length ∧ Below w.heap.size w w' := by
  obtain ⟨i0, hi, hz0, hz1, hz2⟩ := info_parts Try.info80
  have hda := allD_of ha.dig
  have hdb := allD_of hb.dig
  have h2 := len_le hda hdb hnb hba
  have E : Hid (vals (difD (dg a) (dg b) a.length) = vals a - vals b) := dif_end hda hdb hnb hba
  have HL := difD_len (dg a) (dg b)
  have HI := difD_isD (dg a) (dg b)
  clear hnb hba
  go_enter Try.func60, Try.ntmps60
  go_wp2_with (at_make; refine wpList_make_full _ rfl (.tmp 10) (.tmp 10) 49 rfl w.heap.size 80 i0 (.int .u32 0) 1 Try.underlying49 hi hz0 hz1 .i64 .i64 _ _ a.length rfl rfl (by omega) (by omega) (by rw [hz2]; omega) (by unfold maxLen; omega) (by simp) ?_)
  intro w1 hown hgrow
  have hrow0 := Row.new hown
  have hbl0 : Below w.heap.size w w1 := ⟨hgrow.os, hgrow.tape, hgrow.output, hgrow.size, fun k hk => hgrow.block k hk (by simp)⟩
  clear hown hgrow
  go_wp2
  go_loopw [6, 7] (fun vc vi wr => ∃ k : Nat, k ≤ a.length ∧ vi = .int .i64 k ∧ vc = .int .u64 (difB (dg a) (dg b) k) ∧ Row wr w.heap.size (difD (dg a) (dg b) k ++ List.replicate (a.length - k) 0) ∧ Below w.heap.size w wr) (fun _ vi _ => a.length - (intOf vi).toNat)
  case atStart => exact ⟨0, by omega, rfl, rfl, by simpa [difD] using hrow0, hbl0⟩
  case round =>
    clear hrow0 hbl0
    obtain ⟨k, hk, rfl, rfl, hrow, hbl⟩ := hrel
    by_cases hend : k = a.length
    · subst hend
      rw [Nat.sub_self, List.replicate_zero, List.append_nil] at hrow
      have hR := hrow.rd (HI _) (by rw [HL]; omega)
      rw [HL] at hR
      go_wp2
      go_ret
      exact ⟨w.heap.size, difD (dg a) (dg b) a.length, by rw [HL]; rfl, by rw [HL]; exact hR, E.out, by rw [HL], hbl⟩
    · have hlen : (difD (dg a) (dg b) k ++ List.replicate (a.length - k) 0).length = a.length := by rw [List.length_append, HL, List.length_replicate]; omega
      obtain ⟨sc0, sc1⟩ := difB_bd hda hdb k
      have da := hda k
      have db := hdb k
      unfold isD at da db
      generalize hSC : difB (dg a) (dg b) k = DB at *
      have HS : Hid (difB (dg a) (dg b) k = DB) := hSC
      clear hSC
      have hka : k < a.length := by omega
      by_cases hkb : k < b.length
      · have hx : Hid (dg a k + 4294967296 - dg b k - DB = 4294967296 + dg a k - DB - dg b k) := by unfold Hid; omega
        have e1 : IntKind.u64.wrap (dg a k) = dg a k := by rw [IntKind.wrap_u64]; omega
        have e2 : IntKind.u64.wrap (4294967296 + dg a k) = 4294967296 + dg a k := by rw [IntKind.wrap_u64]; omega
        have e2' : IntKind.u64.wrap (4294967296 + dg a k - DB) = 4294967296 + dg a k - DB := by rw [IntKind.wrap_u64]; omega
        have e3 : IntKind.u64.wrap (dg b k) = dg b k := by rw [IntKind.wrap_u64]; omega
        have e4 : IntKind.u64.wrap (4294967296 + dg a k - DB - dg b k) = 4294967296 + dg a k - DB - dg b k := by rw [IntKind.wrap_u64]; omega
        have e5 : Int.tmod (4294967296 + dg a k - DB - dg b k) 4294967296 = (4294967296 + dg a k - DB - dg b k) % 4294967296 := Int.tmod_eq_emod_of_nonneg (by omega)
        have e6 : Int.tdiv (4294967296 + dg a k - DB - dg b k) 4294967296 = (4294967296 + dg a k - DB - dg b k) / 4294967296 := Int.tdiv_eq_ediv_of_nonneg (by omega)
        have e7 : IntKind.u64.wrap ((4294967296 + dg a k - DB - dg b k) / 4294967296) = (4294967296 + dg a k - DB - dg b k) / 4294967296 := by rw [IntKind.wrap_u64]; omega
        have e9 : IntKind.u64.wrap (1 - (4294967296 + dg a k - DB - dg b k) / 4294967296) = 1 - (4294967296 + dg a k - DB - dg b k) / 4294967296 := by rw [IntKind.wrap_u64]; omega
        have e8 : (4294967296 + dg a k - DB - dg b k) % 4294967296 % 4294967296 = (4294967296 + dg a k - DB - dg b k) % 4294967296 := by omega
        obtain ⟨xa, rfl⟩ := ha.has (by omega)
        have ca1 := (ha.mono hbl).at (i := k) hka
        obtain ⟨xb, rfl⟩ := hb.has (by omega)
        have cb1 := (hb.mono hbl).at (i := k) hkb
        have r1 := hrow.cell k (by rw [hlen]; omega)
        have rf := hrow.frozen k
        have HN : Hid (difB (dg a) (dg b) (k + 1) = 1 - (4294967296 + dg a k - DB - dg b k) / 4294967296) := by unfold Hid; rw [difB_succ, HS.out, hx.out]
        have HR := hrow.set k ((4294967296 + dg a k - DB - dg b k) % 4294967296)
        have HD : Hid ((difD (dg a) (dg b) k ++ List.replicate (a.length - k) 0).set k ((4294967296 + dg a k - DB - dg b k) % 4294967296) = difD (dg a) (dg b) (k + 1) ++ List.replicate (a.length - (k + 1)) 0) := by unfold Hid; rw [difD_succ, HS.out, hx.out]; exact set_at (HL k) (by omega) _
        rw [HD.out] at HR
        clear HD
        clear sc0 sc1 da db
        generalize dg (difD (dg a) (dg b) k ++ List.replicate (a.length - k) 0) k = old at *
        go_wp2
        go_roundw
        case rel => exact ⟨k + 1, by omega, by go_num, by rw [HN.out], HR, hbl.setCell (by simp only []; omega) _⟩
        case measure => simp [intOf]; omega
      · have zb : dg b k = 0 := dg_out b k (by omega)
        have hx : Hid (dg a k + 4294967296 - dg b k - DB = 4294967296 + dg a k - DB) := by unfold Hid; omega
        have e1 : IntKind.u64.wrap (dg a k) = dg a k := by rw [IntKind.wrap_u64]; omega
        have e2 : IntKind.u64.wrap (4294967296 + dg a k) = 4294967296 + dg a k := by rw [IntKind.wrap_u64]; omega
        have e2' : IntKind.u64.wrap (4294967296 + dg a k - DB) = 4294967296 + dg a k - DB := by rw [IntKind.wrap_u64]; omega
        have e5 : Int.tmod (4294967296 + dg a k - DB) 4294967296 = (4294967296 + dg a k - DB) % 4294967296 := Int.tmod_eq_emod_of_nonneg (by omega)
        have e6 : Int.tdiv (4294967296 + dg a k - DB) 4294967296 = (4294967296 + dg a k - DB) / 4294967296 := Int.tdiv_eq_ediv_of_nonneg (by omega)
        have e7 : IntKind.u64.wrap ((4294967296 + dg a k - DB) / 4294967296) = (4294967296 + dg a k - DB) / 4294967296 := by rw [IntKind.wrap_u64]; omega
        have e9 : IntKind.u64.wrap (1 - (4294967296 + dg a k - DB) / 4294967296) = 1 - (4294967296 + dg a k - DB) / 4294967296 := by rw [IntKind.wrap_u64]; omega
        have e8 : (4294967296 + dg a k - DB) % 4294967296 % 4294967296 = (4294967296 + dg a k - DB) % 4294967296 := by omega
        obtain ⟨xa, rfl⟩ := ha.has (by omega)
        have ca1 := (ha.mono hbl).at (i := k) hka
        have r1 := hrow.cell k (by rw [hlen]; omega)
        have rf := hrow.frozen k
        have HN : Hid (difB (dg a) (dg b) (k + 1) = 1 - (4294967296 + dg a k - DB) / 4294967296) := by unfold Hid; rw [difB_succ, HS.out, hx.out]
        have HR := hrow.set k ((4294967296 + dg a k - DB) % 4294967296)
        have HD : Hid ((difD (dg a) (dg b) k ++ List.replicate (a.length - k) 0).set k ((4294967296 + dg a k - DB) % 4294967296) = difD (dg a) (dg b) (k + 1) ++ List.replicate (a.length - (k + 1)) 0) := by unfold Hid; rw [difD_succ, HS.out, hx.out]; exact set_at (HL k) (by omega) _
        rw [HD.out] at HR
        clear HD
        clear zb
        clear sc0 sc1 da db
        generalize dg (difD (dg a) (dg b) k ++ List.replicate (a.length - k) 0) k = old at *
        go_wp2
        go_roundw
        case rel => exact ⟨k + 1, by omega, by go_num, by rw [HN.out], HR, hbl.setCell (by simp only []; omega) _⟩
        case measure => simp [intOf]; omega
end Go.Proofs.Ytagabccaipfjeaa

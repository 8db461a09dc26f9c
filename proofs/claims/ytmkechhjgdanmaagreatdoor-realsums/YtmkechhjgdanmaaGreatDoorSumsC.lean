/- Contracts of both means, both lengths, what is alike, and the list of numbers. -/
import Derived.Test.YtmkechhjgdanmaaGreatDoorSlices
import Derived.Test.YtmkechhjgdanmaaGreatDoorAllP
namespace Go.Proofs.YtmkechhjgdanmaaGreatDoor
open Go.RowKit Go.Sort Ieee

/-! ### Alike -/
set_option maxRecDepth 20000 in
set_option maxHeartbeats 800000 in
theorem alike_any (a b : Nat) (w : World) (ha : a < 18446744073709551616) (h : sim a b) :
    Calls Tryz.prog 18 #[.float .f64 a, .float .f64 b] w fun e w' => e = .returned (.bool true) ∧ w' = w := by
  by_cases n : isN a
  · have p1 : FloatKind.f64.format.order a b = none := order_nan_l b n
    have p2 : FloatKind.f64.format.order a a = none := order_nan_l a n
    have p3 : FloatKind.f64.format.order b b = none := by
      rcases h with rfl | ⟨_, n2⟩
      · exact p2
      · exact order_nan_l b n2
    clear h ha n
    go_enter Tryz.func18, Tryz.ntmps18
    go_wp2
    go_ret
    exact ⟨rfl, rfl⟩
  · rcases h with rfl | ⟨n1, _⟩
    · have o := self_num ha n
      clear ha n
      go_enter Tryz.func18, Tryz.ntmps18
      go_wp2
      go_ret
      exact ⟨rfl, rfl⟩
    · exact absurd n1 n

/-! ### Means -/
def meanR (l : List Nat) (r : Nat) : Prop := if l.length = 0 then isN r ∧ r < 18446744073709551616 else ∃ s, sumR l s ∧ arR .quo s (floatOfInt .f64 (l.length : Nat)) r
theorem meanR_lt {l : List Nat} {r : Nat} (h : meanR l r) : r < 18446744073709551616 := by
  unfold meanR at h
  split at h
  · exact h.2
  · obtain ⟨s, _, h⟩ := h; exact arR_lt h
theorem meanR_sim {l l' : List Nat} (hn : l.length = l'.length) (hl : ∀ k, sim (l.getD k 0) (l'.getD k 0)) {r r' : Nat} (h : meanR l r) (h' : meanR l' r') : sim r r' := by
  unfold meanR at h h'
  rw [← hn] at h'
  split at h
  · rename_i c
    rw [if_pos c] at h'
    exact .inr ⟨h.1, h'.1⟩
  · rename_i c
    rw [if_neg c] at h'
    obtain ⟨s, h1, h2⟩ := h
    obtain ⟨s', h1', h2'⟩ := h'
    exact arR_sim h2 h2' (sumR_sim hn hl h1 h1') (.inl rfl)
theorem nan48 (w : World) : Calls Tryz.prog 48 #[] w fun e w' => e = .returned (.float .f64 9221120237041090561) ∧ w' = w := by
  go_enter Tryz.func48, Tryz.ntmps48
  go_wp2_with (simp only [run42])
  go_ret
  exact ⟨rfl, rfl⟩
set_option maxRecDepth 20000 in
set_option maxHeartbeats 800000 in
theorem mean_any (ax : Option Addr) (cap : Nat) (l : List Nat) (w : World) (h : Fs w (.slice ax l.length cap) l) (hl : ∀ i, l.getD i 0 < 18446744073709551616) (hn : l.length ≤ 281474976710656) :
    Calls Tryz.prog 27 #[.slice ax l.length cap] w fun e w' => ∃ r, e = .returned (.float .f64 r) ∧ meanR l r ∧ Gr w w' := by
  have HS := hid' (sum_any _ l w h hl hn)
  by_cases h0 : l.length = 0
  · have HM : Hid (meanR l 9221120237041090561) := by
      show meanR l 9221120237041090561
      unfold meanR; rw [if_pos h0]; decide
    have h0' : ((l.length : Int) == 0) = true := by simp [h0]
    clear h hl hn HS
    go_enter Tryz.func27, Tryz.ntmps27
    go_wp2_with (go_at_call 48; refine (nan48 _).mono ?_; rintro e w' ⟨rfl, rfl⟩)
    go_ret
    exact ⟨_, rfl, HM.out, Gr.refl _⟩
  · have HM : Hid (∀ s r, sumR l s → arR .quo s (floatOfInt .f64 (l.length : Nat)) r → meanR l r) := fun s r h1 h2 => by
      unfold meanR; rw [if_neg h0]; exact ⟨s, h1, h2⟩
    have h0' : ((l.length : Int) == 0) = false := by rw [beq_eq_false_iff_ne]; omega
    clear h hl hn
    go_enter Tryz.func27, Tryz.ntmps27
    go_wp2_with (first
      | (go_at_call 26; refine HS.out.mono ?_; rintro e w1 ⟨s, rfl, hs, g1⟩)
      | (refine wpList_float _ rfl .quo (.inr (.inr (.inr rfl))) _ _ rfl _ _ rfl rfl ?_; intro r w2 h2 g2))
    go_ret
    exact ⟨r, rfl, HM.out s r hs h2, g1.trans g2⟩
set_option maxRecDepth 20000 in
set_option maxHeartbeats 800000 in
theorem rmean_any (ax : Option Addr) (cap : Nat) (l : List Nat) (w : World) (h : Fs w (.slice ax l.length cap) l) (hl : ∀ i, l.getD i 0 < 18446744073709551616) (hn : l.length ≤ 281474976710656) :
    Calls Tryz.prog 29 #[.slice ax l.length cap] w fun e w' => ∃ r, e = .returned (.float .f64 r) ∧ meanR l r ∧ Gr w w' := by
  have HS := hid' (rsum_any _ l w h hl hn)
  by_cases h0 : l.length = 0
  · have HM : Hid (meanR l 9221120237041090561) := by
      show meanR l 9221120237041090561
      unfold meanR; rw [if_pos h0]; decide
    have h0' : ((l.length : Int) == 0) = true := by simp [h0]
    clear h hl hn HS
    go_enter Tryz.func29, Tryz.ntmps29
    go_wp2_with (go_at_call 48; refine (nan48 _).mono ?_; rintro e w' ⟨rfl, rfl⟩)
    go_ret
    exact ⟨_, rfl, HM.out, Gr.refl _⟩
  · have HM : Hid (∀ s r, sumR l s → arR .quo s (floatOfInt .f64 (l.length : Nat)) r → meanR l r) := fun s r h1 h2 => by
      unfold meanR; rw [if_neg h0]; exact ⟨s, h1, h2⟩
    have h0' : ((l.length : Int) == 0) = false := by rw [beq_eq_false_iff_ne]; omega
    clear h hl hn
    go_enter Tryz.func29, Tryz.ntmps29
    go_wp2_with (first
      | (go_at_call 28; refine HS.out.mono ?_; rintro e w1 ⟨s, rfl, hs, g1⟩)
      | (refine wpList_float _ rfl .quo (.inr (.inr (.inr rfl))) _ _ rfl _ _ rfl rfl ?_; intro r w2 h2 g2))
    go_ret
    exact ⟨r, rfl, HM.out s r hs h2, g1.trans g2⟩

/-! ### Lengths -/
theorem near_ok (m : Nat) (p : Int) : double.nearest false m p ≤ 9218868437227405312 := by
  unfold Format.nearest
  split
  · unfold Format.word; simp
  · unfold Format.word
    rw [dbl_inf]
    simp only [Bool.false_eq_true, if_false]
    exact Nat.min_le_right _ _
/-- A word that is not below 0. -/
theorem read_pos {b : Nat} (h : b ≤ 9218868437227405312) : double.read b = .infinity false ∨ ∃ m k, double.read b = .number false m k := by
  rcases Nat.lt_or_eq_of_le h with h | h
  · have hf : fin b := ⟨by omega, by omega⟩
    obtain ⟨m, k, e, _⟩ := read_fin hf
    rw [decide_eq_false (by omega)] at e
    exact .inr ⟨m, _, e⟩
  · subst h; exact .inl (read_inf false)
theorem sq_ok {b : Nat} (h : fin b) : ∃ r, floatBits .mul .f64 b b = some r ∧ r ≤ 9218868437227405312 := by
  obtain ⟨m, k, e, _⟩ := read_fin h
  refine ⟨double.nearest false (m * m) (((k : Int) - 1074) + ((k : Int) - 1074)), ?_, near_ok _ _⟩
  show Format.mul double b b = _
  unfold Format.mul
  rw [e]
  show some (double.nearest _ (m * m) _) = _
  rw [show (decide (9223372036854775808 ≤ b) ^^ decide (9223372036854775808 ≤ b)) = false from by cases decide (9223372036854775808 ≤ b) <;> rfl]
theorem add_ok {a b : Nat} (ha : a ≤ 9218868437227405312) (hb : b ≤ 9218868437227405312) : ∃ r, floatBits .add .f64 a b = some r ∧ r ≤ 9218868437227405312 := by
  have hw : double.word false double.infRung ≤ 9218868437227405312 := by rw [dbl_inf]; decide
  show ∃ r, Format.add double a b = some r ∧ _
  unfold Format.add
  rcases read_pos ha with e | ⟨m, i, e⟩ <;> rcases read_pos hb with e' | ⟨n, j, e'⟩ <;> rw [e, e']
  · exact ⟨_, rfl, hw⟩
  · exact ⟨_, rfl, hw⟩
  · exact ⟨_, rfl, hw⟩
  · simp only [Datum.sum, Option.map_some, Format.write]
    refine ⟨_, rfl, ?_⟩
    have ht : ∀ T : Int, 0 ≤ T → (if T = 0 then (false && false) else decide (T < 0)) = false := fun T h => by
      split
      · rfl
      · simp; omega
    have hs : ∀ m u, 0 ≤ signed false m u := fun m u => by unfold signed; rw [if_neg (by decide)]; exact Int.natCast_nonneg _
    rw [ht _ (Int.add_nonneg (hs _ _) (hs _ _))]
    exact near_ok _ _
theorem root_ok {a : Nat} (ha : a ≤ 9218868437227405312) : ∃ r, FloatKind.f64.format.sqrt a = some r ∧ r ≤ 9218868437227405312 := by
  have hw : double.word false double.infRung ≤ 9218868437227405312 := by rw [dbl_inf]; decide
  show ∃ r, Format.sqrt double a = some r ∧ _
  unfold Format.sqrt
  rcases read_pos ha with e | ⟨m, i, e⟩ <;> rw [e]
  · exact ⟨_, rfl, hw⟩
  · simp only [Datum.root]
    split
    · exact ⟨_, rfl, near_ok _ _⟩
    · rw [if_neg (by decide)]
      exact ⟨_, rfl, near_ok _ _⟩
theorem int_fin {n : Int} (h : -9223372036854775808 ≤ n ∧ n ≤ 9223372036854775807) : fin (floatOfInt .f64 n) := by
  have hlt := floatOfInt_lt n
  refine ⟨hlt, ?_⟩
  show double.nearest (decide (n < 0)) n.natAbs 0 % 9223372036854775808 < 9218868437227405312
  by_cases h0 : n.natAbs = 0
  · rw [h0, nearest_zero]; unfold Format.word; rw [dbl_sw]; split <;> decide
  · have hl1 : 2 ^ n.natAbs.log2 ≤ n.natAbs := Nat.log2_self_le h0
    have hl2 : n.natAbs < 2 ^ (n.natAbs.log2 + 1) := Nat.lt_log2_self
    have hL : n.natAbs.log2 ≤ 63 := by
      apply Classical.byContradiction
      intro hc
      have : 2 ^ 64 ≤ 2 ^ n.natAbs.log2 := Nat.pow_le_pow_right (by omega) (by omega)
      omega
    generalize n.natAbs = A at *
    generalize A.log2 = L at *
    by_cases c : L ≤ 52
    · rw [(nearest_small _ A L (L + 1022) 0 hl1 hl2 c (by omega) (by omega)).1]
      have hN := (nearest_small (decide (n < 0)) A L (L + 1022) 0 hl1 hl2 c (by omega) (by omega)).2
      have h1 := hN.lo
      have h2 := hN.hi
      generalize A * 2 ^ (52 - L) = M at *
      clear hl1 hl2
      unfold fw
      split <;> omega
    · obtain ⟨K, rfl⟩ : ∃ K, L = 52 + K := ⟨L - 52, by omega⟩
      rw [nearest_at _ A K 0 hl1 (by rw [show 53 + K = 52 + K + 1 from by omega]; exact hl2) (by omega)]
      have hr : rne A K ≤ 9007199254740992 := by
        unfold rne
        have hd : A / 2 ^ K < 9007199254740992 := by
          rw [Nat.div_lt_iff_lt_mul (Nat.two_pow_pos K)]
          have e : (2 : Nat) ^ (52 + K + 1) = 9007199254740992 * 2 ^ K := by rw [show 52 + K + 1 = 53 + K from by omega, Nat.pow_add]
          rw [← e]; exact hl2
        split <;> omega
      generalize rne A K = R at *
      clear hl1 hl2
      rw [show (0 + (K : Int) + 1074).toNat = K + 1074 from by omega, Nat.min_eq_left (by omega)]
      unfold Format.word
      rw [dbl_sw]
      split <;> omega
theorem run64 {x r : Nat} (h : FloatKind.f64.format.sqrt x = some r) (w : World) : (callFunc 64 #[.float .f64 x]).run Tryz.prog w = .ok (.value (.float .f64 r)) w := by
  rw [run_callFunc_extern Tryz.func64 (by kernel_rfl) (by kernel_rfl) (by kernel_rfl) (e := Extern.MathSqrt.sqrt) (by kernel_rfl)]
  have e : Extern.MathSqrt.sqrt #[.float .f64 x] = pure (.float .f64 r) := by
    show (match FloatKind.f64.format.sqrt x with
      | some r => pure (.float .f64 r)
      | none => do pure (.float .f64 (← choose (.nanBits .f64 x x))) : Sem Value) = _
    rw [h]
  rw [e]
  rfl
set_option maxHeartbeats 400000 in
theorem sqrt_any {x r : Nat} (h : FloatKind.f64.format.sqrt x = some r) (w : World) : Calls Tryz.prog 50 #[.float .f64 x] w fun e w' => e = .returned (.float .f64 r) ∧ w' = w := by
  have H := run64 h
  go_enter Tryz.func50, Tryz.ntmps50
  go_wp2_with (simp only [H])
  go_ret
  exact ⟨rfl, rfl⟩
set_option maxRecDepth 20000 in
set_option maxHeartbeats 800000 in
theorem lengths (m n : Int) (hm : -9223372036854775808 ≤ m ∧ m ≤ 9223372036854775807) (hn : -9223372036854775808 ≤ n ∧ n ≤ 9223372036854775807) :
    ∃ r, r ≤ 9218868437227405312 ∧ (∀ w, Calls Tryz.prog 31 #[.int .i64 m, .int .i64 n] w fun e w' => e = .returned (.float .f64 r) ∧ w' = w) ∧ ∀ w, Calls Tryz.prog 32 #[.int .i64 m, .int .i64 n] w fun e w' => e = .returned (.float .f64 r) ∧ w' = w := by
  obtain ⟨x, hx, lx⟩ := sq_ok (int_fin hm)
  obtain ⟨y, hy, ly⟩ := sq_ok (int_fin hn)
  obtain ⟨s, hs, ls⟩ := add_ok lx ly
  obtain ⟨r, hr, lr⟩ := root_ok ls
  refine ⟨r, lr, fun w => ?_, fun w => ?_⟩
  · have e1 : ∀ w, (binOp .mul 23 (.float .f64 (floatOfInt .f64 m)) (.float .f64 (floatOfInt .f64 m))).run Tryz.prog w = .ok (.float .f64 x) w := fun w => run_float_arith w .mul 23 .f64 _ _ _ hx
    have e2 : ∀ w, (binOp .mul 23 (.float .f64 (floatOfInt .f64 n)) (.float .f64 (floatOfInt .f64 n))).run Tryz.prog w = .ok (.float .f64 y) w := fun w => run_float_arith w .mul 23 .f64 _ _ _ hy
    have e3 : ∀ w, (binOp .add 23 (.float .f64 x) (.float .f64 y)).run Tryz.prog w = .ok (.float .f64 s) w := fun w => run_float_arith w .add 23 .f64 _ _ _ hs
    have H := hid' (fun w => sqrt_any hr w)
    clear hx hy hs hr hm hn
    go_enter Tryz.func31, Tryz.ntmps31
    go_wp2_with (go_at_call 50; refine (H.out _).mono ?_; rintro e w' ⟨rfl, rfl⟩)
    go_ret
    exact ⟨rfl, rfl⟩
  · have e1 : ∀ w, (binOp .mul 23 (.float .f64 (floatOfInt .f64 m)) (.float .f64 (floatOfInt .f64 m))).run Tryz.prog w = .ok (.float .f64 x) w := fun w => run_float_arith w .mul 23 .f64 _ _ _ hx
    have e2 : ∀ w, (binOp .mul 23 (.float .f64 (floatOfInt .f64 n)) (.float .f64 (floatOfInt .f64 n))).run Tryz.prog w = .ok (.float .f64 y) w := fun w => run_float_arith w .mul 23 .f64 _ _ _ hy
    have e3 : ∀ w, (binOp .add 23 (.float .f64 x) (.float .f64 y)).run Tryz.prog w = .ok (.float .f64 s) w := fun w => run_float_arith w .add 23 .f64 _ _ _ hs
    have H := hid' (fun w => sqrt_any hr w)
    clear hx hy hs hr hm hn
    go_enter Tryz.func32, Tryz.ntmps32
    go_wp2_with (go_at_call 50; refine (H.out _).mono ?_; rintro e w' ⟨rfl, rfl⟩)
    go_ret
    exact ⟨rfl, rfl⟩
theorem of9 (b : Nat) (w : World) : Calls Tryz.prog 9 #[.int .u64 (b : Int)] w fun e w' => e = .returned (.float .f64 b) ∧ w' = w := by
  go_enter Tryz.func9, Tryz.ntmps9
  go_wp2_with (simp only [run42])
  go_ret
  exact ⟨rfl, rfl⟩
set_option maxRecDepth 20000 in
set_option maxHeartbeats 3200000 in
theorem numbers_any (v : Value) (l : List Nat) (w : World) (hv : Zs w .u64 v (l.map fun (b : Nat) => (b : Int))) (hn : l.length * 8 ≤ 140737488351232) :
    Calls Tryz.prog 25 #[v] w fun e w' => ∃ g cap, e = .returned (.slice (some ⟨g, 0, none⟩) l.length cap) ∧ w'.ownsRow w.heap.size 23 1 (.slice (some ⟨g, 0, none⟩) (l.length + 1) cap) (l.length + 1) (fls (l ++ [4635118810238550016])) ∧ Below w.heap.size w w' := by
  obtain ⟨ao, capb, rfl, hc⟩ := hv
  rw [List.length_map] at hc ⊢
  obtain ⟨i0, hi', hz0, hz1, hz2⟩ := info_parts Tryz.info23
  have HC := hid' hc
  clear hc
  go_enter Tryz.func25, Tryz.ntmps25
  go_wp2
  go_loopw [3, 4] (fun v3 v4 wr => ∃ k : Nat, k ≤ l.length ∧ v4 = .int .i64 k ∧ Hid (wr.ownsRow w.heap.size 23 1 v3 k (fls (l.take k))) ∧ Hid (Below w.heap.size w wr) ∧ w.heap.size ≤ wr.heap.size) (fun _ v4 _ => l.length - (intOf v4).toNat)
  case atStart => exact ⟨0, by omega, rfl, nil_own w _, Below.refl _ _, Nat.le_refl _⟩
  case round =>
    obtain ⟨k, hk, rfl, hO, hB, hsz⟩ := hrel
    by_cases hlt : k < l.length
    · obtain ⟨b, off, rfl, hcell⟩ := HC.out k hlt
      have hg : (l.map fun (b : Nat) => (b : Int)).getD k 0 = ((l.getD k 0 : Nat) : Int) := by simp [List.getD, hlt]
      rw [hg] at hcell
      have r1 := below_cell hcell hB.out
      have HE := hid' (fls_one l k hlt)
      clear hcell hg
      generalize l.getD k 0 = x at *
      go_wp2_with (first
        | (go_at_call 9; refine (of9 _ _).mono ?_; rintro e wr ⟨rfl, rfl⟩)
        | (at_builtin; refine wpList_append_own _ rfl (.tmp 11) (.tmp 17) 44 rfl w.heap.size 23 i0 (.float .f64 0) 1 8 Tryz.underlying44 hi' hz0 hz1 hz2 rfl (by decide) _ k _ rfl (hO.out.alloc _) ⟨wr.heap.size, 0, none⟩ 1 1 [.float .f64 x] rfl rfl (one_cells _ _ _) (fun u hu => by simp at hu; subst hu; rfl) (by unfold maxLen; omega) (by omega) (by simp; omega) ?_; intro sv' w' ho' hg' _))
      have HB2 := hid' (push_below hO.out hB.out hsz hg')
      have hsz2 := Nat.le_trans hsz (push_size hg')
      have HO2 : Hid (w'.ownsRow w.heap.size 23 1 sv' (k + 1) (fls (l.take (k + 1)))) := by
        show w'.ownsRow w.heap.size 23 1 sv' (k + 1) (fls (l.take (k + 1)))
        rw [← HE.out]; exact ho'
      clear hO hB ho' hg' r1
      go_wp2
      go_roundw
      case rel => exact ⟨k + 1, by omega, by go_num, HO2, HB2, hsz2⟩
      case measure => simp [intOf]; omega
    · obtain rfl : k = l.length := by omega
      rw [List.take_length] at hO
      go_upto_region 7 with (at_builtin; refine wpList_append_own _ rfl (.tmp 19) (.tmp 20) 44 rfl w.heap.size 23 i0 (.float .f64 0) 1 8 Tryz.underlying44 hi' hz0 hz1 hz2 rfl (by decide) _ l.length _ rfl (hO.out.alloc _) ⟨wr.heap.size, 0, none⟩ 1 1 [.float .f64 4635118810238550016] rfl rfl (one_cells _ _ _) (fun u hu => by simp at hu; subst hu; rfl) (by unfold maxLen; omega) (by omega) (by simp; omega) ?_; intro sv' w' ho' hg' hnil)
      have HB2 := hid' (push_below hO.out hB.out hsz hg')
      have ho2 : w'.ownsRow w.heap.size 23 1 sv' (l.length + 1) (fls (l ++ [4635118810238550016])) := by
        have e : fls (l ++ [4635118810238550016]) = fls l ++ [.float .f64 4635118810238550016] := by simp [fls]
        rw [e]; exact ho'
      have hsh : ∃ g cap, sv' = .slice (some ⟨g, 0, none⟩) (l.length + 1) cap ∧ l.length + 1 ≤ cap := by
        rcases ho2.2 with ⟨_, h3⟩ | ⟨g, cap, cur, h3, h4, h5, h6, h7⟩
        · omega
        · exact ⟨g, cap, h3, h6⟩
      obtain ⟨g, cap, rfl, hcap⟩ := hsh
      have HO2 := hid' ho2
      clear hO hB ho' hg' ho2 hnil
      go_wp2
      go_ret
      exact ⟨g, cap, rfl, HO2.out, HB2.out⟩
end Go.Proofs.YtmkechhjgdanmaaGreatDoor

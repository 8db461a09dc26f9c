/- Contracts of lowest and number. -/
import Derived.Test.YtomklacjaadcaaaDoorMem
namespace Go.Proofs.YtomklacjaadcaaaDoor
open Go.RowKit Go.Sort

/-- The n lowest bytes, the lowest first. -/
def lows (v : Nat) : Nat → List UInt8
  | 0 => []
  | n + 1 => UInt8.ofNat v :: lows (v / 256) n
theorem lows_len : ∀ (n v : Nat), (lows v n).length = n
  | 0, _ => rfl
  | n + 1, v => by simp [lows, lows_len n]
theorem lows_more : ∀ (n v : Nat), lows v (n + 1) = lows v n ++ [UInt8.ofNat (v / 256 ^ n)]
  | 0, v => by simp [lows]
  | n + 1, v => by
    show UInt8.ofNat v :: lows (v / 256) (n + 1) = (UInt8.ofNat v :: lows (v / 256) n) ++ [_]
    rw [lows_more n (v / 256), Nat.div_div_eq_div_mul, show 256 * 256 ^ n = 256 ^ (n + 1) from by rw [Nat.pow_succ, Nat.mul_comm]]
    rfl
theorem one_src (w : World) (v : Value) (t : TypeId) : ∀ j u, [v][j]? = some u → (w.alloc (.cells #[v] t)).cell? ((⟨w.heap.size, 0, none⟩ : Addr).add j) = some u := by
  intro j u hu
  have hj : j = 0 := by
    have := (List.getElem?_eq_some_iff.1 hu).1
    simpa using this
  subst hj
  simp at hu
  subst hu
  rw [Addr.add_lit]
  exact (Row.new w t [v]).cell 0
set_option maxRecDepth 20000 in
set_option maxHeartbeats 3200000 in
theorem lowest_any (g off k cap : Nat) (t : TypeId) (L : List Value) (v n : Nat) (hv : v < 18446744073709551616) (hn : n ≤ 8) (hcap : cap ≤ 1000000) (hr : k + n ≤ cap) (hf : off + k + n ≤ L.length) (w : World) (hg : Row w g t L) :
    Calls Tryd.prog 67 #[.slice (some ⟨g, off, none⟩) k cap, .int .u64 v, .int .i64 n] w fun e w' => e = .returned (.slice (some ⟨g, off, none⟩) (k + n) cap) ∧ Row w' g t (splice L (off + k) (bc (lows v n))) ∧ w.grownBy w' (some g) := by
  have HG := hid' hg
  clear hg
  go_enter Tryd.func67, Tryd.ntmps67
  go_wp2
  go_loopw [0, 1, 8] (fun vb vv vi wr => ∃ i : Nat, i ≤ n ∧ vb = .slice (some ⟨g, off, none⟩) (k + i) cap ∧ vv = .int .u64 (v / 256 ^ i : Nat) ∧ vi = .int .i64 i ∧ Hid (Row wr g t (splice L (off + k) (bc (lows v i)))) ∧ Hid (w.grownBy wr (some g))) (fun _ _ vi _ => n - (intOf vi).toNat)
  case atStart => exact ⟨0, by omega, rfl, by simp, rfl, by show Row w g t _; simpa [lows, bc, splice_nil] using HG.out, World.grownBy.refl w _⟩
  case round =>
    obtain ⟨i, hi, rfl, rfl, rfl, hR, hG⟩ := hrel
    by_cases hlt : i < n
    · have HL := hid' (lows_more i v)
      have hV : v / 256 ^ i < 18446744073709551616 := Nat.lt_of_le_of_lt (Nat.div_le_self _ _) hv
      have HV : Hid (v / 256 ^ (i + 1) = v / 256 ^ i / 256) := by show _ = _; rw [Nat.div_div_eq_div_mul, Nat.pow_succ]
      have hll := lows_len i v
      have hsp := length_splice' L (off + k) (bc (lows v i)) (by rw [bc_len, hll]; omega)
      have HX : Hid (splice (splice L (off + k) (bc (lows v i))) (off + (k + i)) [.int .u8 ((v / 256 ^ i : Nat) % 256 : Int)] = splice L (off + k) (bc (lows v (i + 1)))) := by
        show _ = _
        have := splice_app L (off + k) (bc (lows v i)) [.int .u8 ((v / 256 ^ i : Nat) % 256 : Int)] (by rw [bc_len, hll]; simp; omega)
        rw [bc_len, hll, Nat.add_assoc] at this
        rw [this, lows_more, bc_app]
        congr 2
      generalize splice L (off + k) (bc (lows v i)) = M at *
      generalize v / 256 ^ i = V at *
      go_upto_region 4 with (at_builtin; refine wpList_app_room rfl _ _ rfl g off (k + i) cap t M (hR.out.alloc _) rfl ⟨wr.heap.size, 0, none⟩ 1 1 [.int .u8 ((V : Nat) % 256 : Int)] rfl rfl (one_src _ _ _) (fun u hu => by simp at hu; subst hu; rfl) (by omega) (by omega) ?_; intro w2 r2 g2)
      have HR2 : Hid (Row w2 g t (splice L (off + k) (bc (lows v (i + 1))))) := by
        show Row _ _ _ _
        rw [← HX.out]; exact r2
      have HG2 : Hid (w.grownBy w2 (some g)) := grown_trans hG.out (grown_trans (World.grownBy_alloc wr _ _) g2)
      clear hR hG r2 g2 HX
      go_wp2
      go_roundw
      case rel => exact ⟨i + 1, by omega, rfl, by rw [HV.out]; go_num, by go_num, HR2, HG2⟩
      case measure => simp [intOf]; omega
    · have hin : i = n := by omega
      subst hin
      go_wp2
      go_ret
      exact ⟨rfl, hR.out, hG.out⟩
/-- The number in some bytes. -/
def num : List UInt8 → Nat
  | [] => 0
  | x :: r => x.toNat + 256 * num r
theorem num_lt : ∀ l : List UInt8, num l < 256 ^ l.length
  | [] => by decide
  | x :: r => by
    have := num_lt r
    have hx := x.toNat_lt
    show x.toNat + 256 * num r < 256 ^ (r.length + 1)
    rw [Nat.pow_succ]
    omega
theorem num_app : ∀ (l r : List UInt8), num (l ++ r) = num l + 256 ^ l.length * num r
  | [], r => by simp [num]
  | x :: l, r => by
    show x.toNat + 256 * num (l ++ r) = x.toNat + 256 * num l + 256 ^ (l.length + 1) * num r
    rw [num_app l r, Nat.mul_add, Nat.pow_succ, ← Nat.mul_assoc, Nat.mul_comm 256 (256 ^ l.length)]
    omega
theorem num_step (l : List UInt8) (k : Nat) (h : k < l.length) : num (l.take (k + 1)) = num (l.take k) + 256 ^ k * (l.getD k 0).toNat := by
  rw [List.take_add_one, List.getElem?_eq_getElem h, num_app]
  have : (l.take k).length = k := by simp; omega
  rw [this]
  simp [List.getD, h, num]
theorem or_step {C X k : Nat} (hC : C < 256 ^ k) (hX : X < 2 ^ 8) (hk : k < 8) : bits .or .u64 (C : Int) (IntKind.u64.wrap ((X : Int) * 2 ^ (8 * k))) = ((C + 256 ^ k * X : Nat) : Int) := by
  have e : (256 : Nat) ^ k = 2 ^ (8 * k) := by rw [Nat.pow_mul]
  have hp : 256 ^ k ≤ 256 ^ 7 := Nat.pow_le_pow_right (by decide) (by omega)
  have hm : 256 ^ k * X ≤ 256 ^ 7 * 255 := Nat.mul_le_mul hp (by omega)
  have h1 : IntKind.u64.wrap ((X : Int) * 2 ^ (8 * k)) = ((256 ^ k * X : Nat) : Int) := by
    have : (X : Int) * 2 ^ (8 * k) = ((256 ^ k * X : Nat) : Int) := by
      rw [e]; push_cast; rw [Int.mul_comm]
    rw [this, IntKind.wrap_u64]
    exact Int.emod_eq_of_lt (by omega) (by omega)
  rw [h1, u64_or_nat _ _ (by omega) (by omega)]
  congr 1
  rw [e] at hC ⊢
  rw [Nat.or_comm, ← Nat.two_pow_add_eq_or_of_lt hC, Nat.add_comm]
set_option maxRecDepth 20000 in
set_option maxHeartbeats 3200000 in
theorem number_any (ao : Option Addr) (cap : Nat) (l : List UInt8) (hl : l.length ≤ 8) (w : World) (hb : By w ao l) :
    Calls Tryd.prog 70 #[.slice ao l.length cap] w fun e w' => e = .returned (.int .u64 (num l : Nat)) ∧ w' = w := by
  have HB := hid' hb
  clear hb
  go_enter Tryd.func70, Tryd.ntmps70
  go_wp2
  go_loop [3, 8] (fun vv vi => ∃ k : Nat, k ≤ l.length ∧ vi = .int .i64 k ∧ vv = .int .u64 (num (l.take k) : Nat)) (fun _ vi => l.length - (intOf vi).toNat)
  case atStart => exact ⟨0, by omega, rfl, rfl⟩
  case round =>
    obtain ⟨k, hk, rfl, rfl⟩ := hrel
    by_cases hlt : k < l.length
    · obtain ⟨b, off, rfl, r1⟩ := HB.out k hlt
      have hX := (l.getD k 0).toNat_lt
      have HS := hid' (num_step l k hlt)
      have hC : num (l.take k) < 256 ^ k := by
        have := num_lt (l.take k)
        rwa [List.length_take, Nat.min_eq_left hk] at this
      have HE := hid' (or_step hC hX (by omega))
      clear hC
      generalize (l.getD k 0).toNat = X at *
      generalize num (l.take k) = C at *
      go_wp2
      go_round
      case rel => exact ⟨k + 1, by omega, by go_num, by rw [HS.out, ← HE.out]⟩
      case measure => simp [intOf]; omega
    · have hkn : k = l.length := by omega
      subst hkn
      go_wp2
      go_ret
      exact ⟨rfl, rfl⟩
theorem number_at {ao : Option Addr} {cap : Nat} {l : List UInt8} {n : Nat} (hn : l.length = n) (hl : n ≤ 8) {w : World} (hb : By w ao l) :
    Calls Tryd.prog 70 #[.slice ao n cap] w fun e w' => e = .returned (.int .u64 (num l : Nat)) ∧ w' = w := by
  subst hn; exact number_any ao cap l hl w hb
theorem sum_at {ao ao2 : Option Addr} {cap cap2 n n2 : Nat} {l l2 : List UInt8} (hn : l.length = n) (hn2 : l2.length = n2) {w : World} (hl : n ≤ 281474976710656) (hb : By w ao l) (hl2 : n2 ≤ 281474976710656) (hb2 : By w ao2 l2) (hR : RemIs w) :
    Calls Tryd.prog 68 #[.slice ao n cap, .slice ao2 n2 cap2] w fun e w' => e = .returned (.int .u32 (sumP l l2 : Nat)) ∧ w' = w := by
  subst hn; subst hn2; exact sum_any ao cap l ao2 cap2 l2 w hl hb hl2 hb2 hR
theorem getD_take {l : List UInt8} {n i : Nat} (h : i < n) : (l.take n).getD i 0 = l.getD i 0 := by simp [List.getD, h]
theorem getD_drop {l : List UInt8} {n i : Nat} : (l.drop n).getD i 0 = l.getD (n + i) 0 := by simp [List.getD]
/-- A piece of a slice of bytes. -/
theorem By.piece {w : World} {b off : Nat} {l : List UInt8} (h : By w (some ⟨b, off, none⟩) l) (i n : Nat) : By w (some ⟨b, off + i, none⟩) ((l.drop i).take n) := fun j hj => by
  simp at hj
  obtain ⟨b', off', e, hc⟩ := h (i + j) (by omega)
  cases e
  exact ⟨b, off + i, rfl, by rw [getD_take (by omega), getD_drop, Nat.add_assoc]; exact hc⟩
theorem By.head {w : World} {b off : Nat} {l : List UInt8} (h : By w (some ⟨b, off, none⟩) l) (n : Nat) : By w (some ⟨b, off, none⟩) (l.take n) := by
  have := h.piece 0 n
  simpa using this
theorem By.tail {w : World} {b off : Nat} {l : List UInt8} (h : By w (some ⟨b, off, none⟩) l) (i : Nat) : By w (some ⟨b, off + i, none⟩) (l.drop i) := by
  have := h.piece i (l.drop i).length
  rwa [List.take_length] at this
end Go.Proofs.YtomklacjaadcaaaDoor

/- Plain: the sum by half bytes. It parts under xor, nothing is lost in it, and no four neighbours vanish in it. -/
import Derived.KernelRfl
namespace Go.Proofs.YtomklacjaadcaaaDoor

def rem : List Nat := [0, 498536548, 997073096, 651767980, 1994146192, 1802195444, 1303535960, 1342533948, 3988292384, 4027552580, 3604390888, 3412177804, 2607071920, 2262029012, 2685067896, 3183342108]
def half (c : Nat) : Nat := (c / 16) ^^^ rem.getD (c % 16) 0
def whole (c : Nat) : Nat := half (half c)
def crcGo (c : Nat) (l : List UInt8) : Nat := l.foldl (fun c x => whole (c ^^^ x.toNat)) c

theorem rem_lin : ∀ a b : Fin 16, rem.getD (a.1 ^^^ b.1) 0 = rem.getD a.1 0 ^^^ rem.getD b.1 0 := by decide +kernel
theorem rem_lt : ∀ a : Fin 16, rem.getD a.1 0 < 4294967296 := by decide +kernel
theorem rem_top : ∀ a : Fin 16, rem.getD a.1 0 < 268435456 → a.1 = 0 := by decide +kernel
theorem rem_lt' {a : Nat} (h : a < 16) : rem.getD a 0 < 2 ^ 32 := rem_lt ⟨a, h⟩
theorem half_lin (a b : Nat) : half (a ^^^ b) = half a ^^^ half b := by
  unfold half
  have h1 : (a ^^^ b) / 16 = (a / 16) ^^^ (b / 16) := by
    have := Nat.shiftRight_xor_distrib (a := a) (b := b) (i := 4)
    simpa [Nat.shiftRight_eq_div_pow] using this
  have h2 : (a ^^^ b) % 16 = (a % 16) ^^^ (b % 16) := Nat.xor_mod_two_pow (n := 4)
  rw [h1, h2, rem_lin ⟨a % 16, Nat.mod_lt _ (by decide)⟩ ⟨b % 16, Nat.mod_lt _ (by decide)⟩]
  simp only [Nat.xor_assoc]
  rw [← Nat.xor_assoc (b / 16), Nat.xor_comm (b / 16), Nat.xor_assoc]
theorem half_lt {c : Nat} (h : c < 4294967296) : half c < 4294967296 := by
  unfold half
  exact Nat.xor_lt_two_pow (n := 32) (by omega) (rem_lt' (Nat.mod_lt _ (by decide)))
theorem half_low {c : Nat} (h : c < 4294967296) (hs : half c < 268435456) : c = 16 * half c := by
  have h0 : c % 16 = 0 := by
    refine rem_top ⟨c % 16, Nat.mod_lt _ (by decide)⟩ ?_
    have e : rem.getD (c % 16) 0 = (c / 16) ^^^ half c := by
      unfold half
      rw [← Nat.xor_assoc, Nat.xor_self, Nat.zero_xor]
    show rem.getD (c % 16) 0 < 268435456
    rw [e]
    exact Nat.xor_lt_two_pow (n := 28) (by omega) hs
  have e : half c = c / 16 := by
    unfold half
    rw [h0]
    show c / 16 ^^^ 0 = c / 16
    rw [Nat.xor_zero]
  omega
theorem whole_lin (a b : Nat) : whole (a ^^^ b) = whole a ^^^ whole b := by unfold whole; rw [half_lin, half_lin]
theorem whole_lt {c : Nat} (h : c < 4294967296) : whole c < 4294967296 := half_lt (half_lt h)
theorem whole_low {c : Nat} (h : c < 4294967296) (hs : whole c < 16777216) : c = 256 * whole c := by
  unfold whole at hs ⊢
  have h1 := half_low (half_lt h) (by omega)
  have h2 := half_low h (by omega)
  omega
theorem xor_lt32 {a b : Nat} (h : a < 4294967296) (k : b < 4294967296) : a ^^^ b < 4294967296 := Nat.xor_lt_two_pow (n := 32) h k
theorem whole_zero : whole 0 = 0 := rfl
theorem byte_lt (x : UInt8) : x.toNat < 4294967296 := by have := x.toNat_lt; omega
theorem crcGo_lt : ∀ (l : List UInt8) {c : Nat}, c < 4294967296 → crcGo c l < 4294967296
  | [], _, h => h
  | x :: l, _, h => crcGo_lt l (whole_lt (xor_lt32 h (byte_lt x)))
theorem crcGo_append (c : Nat) (a b : List UInt8) : crcGo c (a ++ b) = crcGo (crcGo c a) b := by unfold crcGo; rw [List.foldl_append]
/-- The sums of two lists of one length from two states differ by the sum of their difference. -/
def xors (a e : List UInt8) : List UInt8 := List.zipWith (· ^^^ ·) a e
theorem crcGo_xor : ∀ (a e : List UInt8) (c d : Nat), a.length = e.length → crcGo (c ^^^ d) (xors a e) = crcGo c a ^^^ crcGo d e
  | [], [], c, d, _ => rfl
  | [], _ :: _, _, _, h => by simp at h
  | _ :: _, [], _, _, h => by simp at h
  | x :: a, y :: e, c, d, h => by
    show crcGo (whole (c ^^^ d ^^^ (x ^^^ y).toNat)) (xors a e) = crcGo (whole (c ^^^ x.toNat)) a ^^^ crcGo (whole (d ^^^ y.toNat)) e
    rw [← crcGo_xor a e _ _ (by simpa using h), ← whole_lin]
    congr 2
    rw [UInt8.toNat_xor]
    simp only [Nat.xor_assoc]
    rw [← Nat.xor_assoc d, Nat.xor_comm d, Nat.xor_assoc]
theorem crcGo_zeros : ∀ (n : Nat), crcGo 0 (List.replicate n 0) = 0
  | 0 => rfl
  | n + 1 => crcGo_zeros n
theorem crcGo_zeros_inj : ∀ (n : Nat) {c : Nat}, c < 4294967296 → crcGo c (List.replicate n 0) = 0 → c = 0
  | 0, _, _, h => h
  | n + 1, c, hc, h => by
    have e : c ^^^ (0 : UInt8).toNat = c := Nat.xor_zero c
    have h1 := crcGo_zeros_inj n (c := whole (c ^^^ (0 : UInt8).toNat)) (whole_lt (by rw [e]; exact hc)) h
    rw [e] at h1
    have := whole_low hc (by omega)
    omega
theorem xor_zero_eq {a b : Nat} (h : a ^^^ b = 0) : a = b := by
  have := congrArg (· ^^^ b) h
  simpa [Nat.xor_assoc, Nat.xor_self, Nat.zero_xor] using this
theorem u8_zero {x : UInt8} (h : x.toNat = 0) : x = 0 := UInt8.toNat_inj.1 h
/-- Four bytes whose sum from nothing is nothing are noughts. -/
theorem four_zero {a b c d : UInt8} (h : crcGo 0 [a, b, c, d] = 0) : a = 0 ∧ b = 0 ∧ c = 0 ∧ d = 0 := by
  have ha := a.toNat_lt; have hb := b.toNat_lt; have hc := c.toNat_lt; have hd := d.toNat_lt
  have e : crcGo 0 [a, b, c, d] = whole (whole (whole (whole (0 ^^^ a.toNat) ^^^ b.toNat) ^^^ c.toNat) ^^^ d.toNat) := rfl
  rw [e, Nat.zero_xor] at h
  have l1 := whole_lt (byte_lt a)
  have l1' := xor_lt32 l1 (byte_lt b)
  have l2 := whole_lt l1'
  have l2' := xor_lt32 l2 (byte_lt c)
  have l3 := whole_lt l2'
  have l3' := xor_lt32 l3 (byte_lt d)
  have x3 := whole_low l3' (by omega)
  rw [h] at x3
  have d3 := xor_zero_eq x3
  have x2 := whole_low l2' (by omega)
  have d2 : whole (whole a.toNat ^^^ b.toNat) = (whole (whole a.toNat ^^^ b.toNat) ^^^ c.toNat) ^^^ c.toNat := by rw [Nat.xor_assoc, Nat.xor_self, Nat.xor_zero]
  have d2l : whole (whole a.toNat ^^^ b.toNat) < 65536 := by
    rw [d2]; exact Nat.xor_lt_two_pow (n := 16) (by omega) (by omega)
  have x1 := whole_low l1' (by omega)
  have d1 : whole a.toNat = (whole a.toNat ^^^ b.toNat) ^^^ b.toNat := by rw [Nat.xor_assoc, Nat.xor_self, Nat.xor_zero]
  have d1l : whole a.toNat < 16777216 := by
    rw [d1]; exact Nat.xor_lt_two_pow (n := 24) (by omega) (by omega)
  have x0 := whole_low (byte_lt a) d1l
  have a0 : a.toNat = 0 := by omega
  rw [a0, whole_zero, Nat.zero_xor] at x1 d2l x2 d3
  have w1 : whole b.toNat < 16777216 := by omega
  have b0 : b.toNat = 0 := by omega
  rw [b0, whole_zero, Nat.zero_xor] at x2 d3
  have c0 : c.toNat = 0 := by omega
  rw [c0, whole_zero] at d3
  exact ⟨u8_zero a0, u8_zero b0, u8_zero c0, u8_zero d3.symm⟩
theorem few_zero : ∀ (e : List UInt8), e.length ≤ 4 → crcGo 0 e = 0 → ∀ x ∈ e, x = 0
  | [], _, _, x, hx => by cases hx
  | [a], _, h, x, hx => by
    have := four_zero (a := a) (b := 0) (c := 0) (d := 0) (by
      have e : crcGo 0 [a, 0, 0, 0] = crcGo (crcGo 0 [a]) (List.replicate 3 0) := rfl
      rw [e, h]; exact crcGo_zeros 3)
    simp at hx; subst hx; exact this.1
  | [a, b], _, h, x, hx => by
    have := four_zero (a := a) (b := b) (c := 0) (d := 0) (by
      have e : crcGo 0 [a, b, 0, 0] = crcGo (crcGo 0 [a, b]) (List.replicate 2 0) := rfl
      rw [e, h]; exact crcGo_zeros 2)
    simp at hx; rcases hx with rfl | rfl
    · exact this.1
    · exact this.2.1
  | [a, b, c], _, h, x, hx => by
    have := four_zero (a := a) (b := b) (c := c) (d := 0) (by
      have e : crcGo 0 [a, b, c, 0] = crcGo (crcGo 0 [a, b, c]) (List.replicate 1 0) := rfl
      rw [e, h]; exact crcGo_zeros 1)
    simp at hx; rcases hx with rfl | rfl | rfl
    · exact this.1
    · exact this.2.1
    · exact this.2.2.1
  | [a, b, c, d], _, h, x, hx => by
    have := four_zero h
    simp at hx; rcases hx with rfl | rfl | rfl | rfl
    · exact this.1
    · exact this.2.1
    · exact this.2.2.1
    · exact this.2.2.2
  | _ :: _ :: _ :: _ :: _ :: _, h, _, _, _ => by simp at h
theorem xors_self_zero : ∀ (a : List UInt8), xors a (List.replicate a.length 0) = a
  | [] => rfl
  | x :: a => by
    show (x ^^^ 0) :: xors a (List.replicate a.length 0) = x :: a
    rw [xors_self_zero a, UInt8.xor_zero]
/-- Neighbours turned in a list: the sum is another. -/
theorem crc_turned (c : Nat) (hc : c < 4294967296) (p m e s : List UInt8) (he : e.length = m.length) (h4 : e.length ≤ 4) (h : crcGo c (p ++ xors m e ++ s) = crcGo c (p ++ m ++ s)) : ∀ x ∈ e, x = 0 := by
  have hp := crcGo_lt p hc
  rw [crcGo_append, crcGo_append, crcGo_append c (p ++ m), crcGo_append c p] at h
  generalize crcGo c p = k at *
  have h1 : crcGo k (xors m e) = crcGo k m ^^^ crcGo 0 e := by
    have := crcGo_xor m e k 0 he.symm
    rwa [Nat.xor_zero] at this
  rw [h1] at h
  have h2 : crcGo (crcGo k m ^^^ crcGo 0 e) s = crcGo (crcGo k m) s ^^^ crcGo (crcGo 0 e) (List.replicate s.length 0) := by
    have := crcGo_xor s (List.replicate s.length 0) (crcGo k m) (crcGo 0 e) (by simp)
    rwa [xors_self_zero] at this
  rw [h2] at h
  have h3 : crcGo (crcGo 0 e) (List.replicate s.length 0) = 0 := by
    have := congrArg (crcGo (crcGo k m) s ^^^ ·) h
    simpa [← Nat.xor_assoc, Nat.xor_self, Nat.zero_xor] using this
  exact few_zero e h4 (crcGo_zeros_inj _ (crcGo_lt e (by decide)) h3)
end Go.Proofs.YtomklacjaadcaaaDoor

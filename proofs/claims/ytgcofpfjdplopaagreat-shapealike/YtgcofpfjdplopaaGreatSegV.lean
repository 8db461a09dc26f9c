/- Plain: what is alike under moves. -/
import Derived.Test.YtgcofpfjdplopaaGreatSg10
namespace Go.Proofs.YtgcofpfjdplopaaGreat
section
theorem dd_zero {a b : P2} : dd a b = 0 ↔ a = b := by
  constructor
  · intro h
    by_cases k : a = b
    · exact k
    · have := dd_pos k; omega
  · rintro rfl; unfold dd; grind
theorem low_sg {s n d : Int} (hs : s = 1 ∨ s = -1) (hd : d ≠ 0) : lowF (s * n) (s * d) = lowF n d := by
  refine lowF_eq ?_ hd (by grind)
  rcases hs with rfl | rfl <;> omega

/-- A map of the plane that keeps inner products, and cross products but for one sign. -/
structure Iso (s : Int) (M : P2 → P2) : Prop where
  sg : s = 1 ∨ s = -1
  cr : ∀ o x y, crs (M o) (M x) (M y) = s * crs o x y
  dt : ∀ o x y, dtt (M o) (M x) (M y) = dtt o x y
  di : ∀ x y, dd (M x) (M y) = dd x y
theorem Iso.inj {s : Int} {M : P2 → P2} (h : Iso s M) (x y : P2) : M x = M y ↔ x = y := by rw [← dd_zero, h.di, dd_zero]
theorem Iso.zero {s : Int} {M : P2 → P2} (h : Iso s M) (o x y : P2) : crs (M o) (M x) (M y) = 0 ↔ crs o x y = 0 := by
  rw [h.cr]; rcases h.sg with rfl | rfl <;> omega
theorem Iso.on {s : Int} {M : P2 → P2} (h : Iso s M) (p a b : P2) : onP (M p) (M a) (M b) = onP p a b := by
  rw [Bool.eq_iff_iff, onP_iff, onP_iff]
  by_cases k : a = b
  · subst k; rw [on_same, on_same, h.inj]
  · rw [on_iff k, on_iff (fun e => k ((h.inj a b).mp e)), h.zero, h.dt, h.di]
theorem opp_sg {s A B : Int} (hs : s = 1 ∨ s = -1) : oppB (s * A) (s * B) = oppB A B := by
  rw [Bool.eq_iff_iff, oppB_iff, oppB_iff]; unfold opp
  rcases hs with rfl | rfl <;> omega
theorem cross_sg {s A B C D : Int} (hs : s = 1 ∨ s = -1) : crossM (s * A) (s * B) (s * C) (s * D) = crossM A B C D := by
  unfold crossM
  rw [opp_sg hs, opp_sg hs]
  have e1 : (s * A ≠ s * B) ↔ (A ≠ B) := by rcases hs with rfl | rfl <;> omega
  have e2 : (s * A ≠ 0 ∧ s * B ≠ 0 ∧ s * C ≠ 0 ∧ s * D ≠ 0) ↔ (A ≠ 0 ∧ B ≠ 0 ∧ C ≠ 0 ∧ D ≠ 0) := by rcases hs with rfl | rfl <;> omega
  by_cases k : A ≠ B ∧ oppB A B = true ∧ oppB C D = true
  · rw [if_pos k, if_pos ⟨e1.mpr k.1, k.2⟩]
    have e3 : lowF (s * A) (s * A - s * B) = lowF A (A - B) := by rw [← Int.mul_sub]; exact low_sg hs (by omega)
    rw [e3]
    simp only [decide_eq_decide.mpr e2]
  · rw [if_neg k, if_neg (fun q => k ⟨e1.mp q.1, q.2⟩)]
theorem Iso.meet {s : Int} {M : P2 → P2} (h : Iso s M) (a b c d : P2) : meetM (M a) (M b) (M c) (M d) = meetM a b c d := by
  rw [meet_eq, meet_eq]
  unfold meetT
  rw [h.on, h.di, h.dt, h.dt]
  have hz : (crs (M a) (M b) (M c) = 0 ∧ crs (M a) (M b) (M d) = 0) ↔ (crs a b c = 0 ∧ crs a b d = 0) := by rw [h.zero, h.zero]
  by_cases k : a = b
  · rw [if_pos k, if_pos ((h.inj a b).mpr k)]
  · rw [if_neg k, if_neg (fun e => k ((h.inj a b).mp e))]
    by_cases q : crs a b c = 0 ∧ crs a b d = 0
    · rw [if_pos q, if_pos (hz.mpr q)]
    · rw [if_neg q, if_neg (fun e => q (hz.mp e)), h.cr, h.cr, h.cr, h.cr, cross_sg h.sg]
theorem Iso.foot {s : Int} {M : P2 → P2} (h : Iso s M) (p a b : P2) : footF (M p) (M a) (M b) = footF p a b := by
  unfold footF clampT
  rw [h.di, h.dt]
  by_cases k : a = b
  · rw [if_pos k, if_pos ((h.inj a b).mpr k)]
  · rw [if_neg k, if_neg (fun e => k ((h.inj a b).mp e))]
theorem Iso.near {s : Int} {M : P2 → P2} (h : Iso s M) (p a b : P2) (r : Int) : nearB (M p) (M a) (M b) r = nearB p a b r := by
  unfold nearB
  rw [h.di, h.di, h.di, h.dt, h.cr]
  have e : s * crs a b p * (s * crs a b p) = crs a b p * crs a b p := by rcases h.sg with rfl | rfl <;> grind
  rw [e]
theorem Iso.endN {s : Int} {M : P2 → P2} (h : Iso s M) (a b c d : P2) (r : Int) : endN (M a) (M b) (M c) (M d) r = endN a b c d r := by
  unfold Go.Proofs.YtgcofpfjdplopaaGreat.endN nj
  rw [h.near, h.near, h.near, h.near]
theorem Iso.meetA {s : Int} {M : P2 → P2} (h : Iso s M) {a b c d : P2} (la : lat a) (lb : lat b) (lc : lat c) (ld : lat d) (ma : lat (M a)) (mb : lat (M b)) (mc : lat (M c)) (md : lat (M d)) : meetA (M a) (M b) (M c) (M d) = meetA a b c d := by
  unfold Go.Proofs.YtgcofpfjdplopaaGreat.meetA
  rw [(latP_iff _).mpr la, (latP_iff _).mpr lb, (latP_iff _).mpr lc, (latP_iff _).mpr ld, (latP_iff _).mpr ma, (latP_iff _).mpr mb, (latP_iff _).mpr mc, (latP_iff _).mpr md, h.meet]
theorem Iso.footA {s : Int} {M : P2 → P2} (h : Iso s M) {a c d : P2} (la : lat a) (lc : lat c) (ld : lat d) (ma : lat (M a)) (mc : lat (M c)) (md : lat (M d)) : footA (M a) (M c) (M d) = footA a c d := by
  unfold Go.Proofs.YtgcofpfjdplopaaGreat.footA
  rw [(latP_iff _).mpr la, (latP_iff _).mpr lc, (latP_iff _).mpr ld, (latP_iff _).mpr ma, (latP_iff _).mpr mc, (latP_iff _).mpr md, h.foot]
theorem Iso.nearA {s : Int} {M : P2 → P2} (h : Iso s M) {a c d : P2} (r : Int) (la : lat a) (lc : lat c) (ld : lat d) (ma : lat (M a)) (mc : lat (M c)) (md : lat (M d)) : nearA (M a) (M c) (M d) r = nearA a c d r := by
  unfold Go.Proofs.YtgcofpfjdplopaaGreat.nearA
  rw [(latP_iff _).mpr la, (latP_iff _).mpr lc, (latP_iff _).mpr ld, (latP_iff _).mpr ma, (latP_iff _).mpr mc, (latP_iff _).mpr md, h.near]
theorem Iso.nearS {s : Int} {M : P2 → P2} (h : Iso s M) {a b c d : P2} (r : Int) (la : lat a) (lb : lat b) (lc : lat c) (ld : lat d) (ma : lat (M a)) (mb : lat (M b)) (mc : lat (M c)) (md : lat (M d)) : nearS (M a) (M b) (M c) (M d) r = nearS a b c d r := by
  unfold Go.Proofs.YtgcofpfjdplopaaGreat.nearS touchA
  rw [h.meetA la lb lc ld ma mb mc md, h.endN, (latP_iff _).mpr la, (latP_iff _).mpr lb, (latP_iff _).mpr lc, (latP_iff _).mpr ld, (latP_iff _).mpr ma, (latP_iff _).mpr mb, (latP_iff _).mpr mc, (latP_iff _).mpr md]

/-- A quarter turn. -/
def rotP (p : P2) : P2 := (-p.2, p.1)
def rotK : Nat → P2 → P2
  | 0, p => p
  | k + 1, p => rotP (rotK k p)
def mirP (m : Bool) (p : P2) : P2 := if m then (-p.1, p.2) else p
def movP (m : Bool) (k : Nat) (dx dy : Int) (p : P2) : P2 := ((rotK k (mirP m p)).1 + dx, (rotK k (mirP m p)).2 + dy)
theorem Iso.comp {s t : Int} {M N : P2 → P2} (h : Iso s M) (k : Iso t N) : Iso (s * t) (fun p => M (N p)) :=
  ⟨by rcases h.sg with rfl | rfl <;> rcases k.sg with rfl | rfl <;> simp, fun o x y => by rw [h.cr, k.cr, Int.mul_assoc], fun o x y => by rw [h.dt, k.dt], fun x y => by rw [h.di, k.di]⟩
theorem Iso.id : Iso 1 (fun p => p) := ⟨Or.inl rfl, fun _ _ _ => (Int.one_mul _).symm, fun _ _ _ => rfl, fun _ _ => rfl⟩
theorem Iso.rot : Iso 1 rotP := ⟨Or.inl rfl, fun o x y => by unfold crs rotP; grind, fun o x y => by unfold dtt rotP; grind, fun x y => by unfold dd rotP; grind⟩
theorem Iso.rotK (k : Nat) : Iso 1 (rotK k) := by
  induction k with
  | zero => exact Iso.id
  | succ k ih =>
    have h := Iso.comp (s := 1) (t := 1) (M := rotP) (N := Go.Proofs.YtgcofpfjdplopaaGreat.rotK k) Iso.rot ih
    rw [Int.one_mul] at h
    exact h
theorem Iso.mir (m : Bool) : Iso (if m then -1 else 1) (mirP m) := by
  cases m with
  | false => exact Iso.id
  | true => exact ⟨Or.inr rfl, fun o x y => by unfold crs mirP; simp only [if_true]; grind, fun o x y => by unfold dtt mirP; simp only [if_true]; grind, fun x y => by unfold dd mirP; simp only [if_true]; grind⟩
theorem Iso.shift (dx dy : Int) : Iso 1 (fun p => (p.1 + dx, p.2 + dy)) := ⟨Or.inl rfl, fun o x y => by unfold crs; grind, fun o x y => by unfold dtt; grind, fun x y => by unfold dd; grind⟩
theorem Iso.mov (m : Bool) (k : Nat) (dx dy : Int) : ∃ s, Iso s (movP m k dx dy) :=
  ⟨_, Iso.comp (M := fun p => (p.1 + dx, p.2 + dy)) (N := fun p => Go.Proofs.YtgcofpfjdplopaaGreat.rotK k (mirP m p)) (Iso.shift dx dy) (Iso.comp (M := Go.Proofs.YtgcofpfjdplopaaGreat.rotK k) (N := mirP m) (Iso.rotK k) (Iso.mir m))⟩
end
end Go.Proofs.YtgcofpfjdplopaaGreat

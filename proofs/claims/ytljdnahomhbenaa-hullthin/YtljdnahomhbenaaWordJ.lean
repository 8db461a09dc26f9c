/- Contracts of the program's functions on numbers of 128 bits: what each answers, for every input; the memory that was there is as it was. Contracts of the program's numbers of 64 bits as numbers of 128, and whether 64 bits hold one. -/
import Derived.Test.YtljdnahomhbenaaRows
import Derived.Test.YtljdnahomhbenaaPlain
import Derived.WalkKit
import Derived.WalkSpells
import Derived.WalkLawsBesides
import Derived.Handy
import Derived.Shelf.Spec.BitsCarry
import Derived.Shelf.SlSortCmp.QuietGrown
import Derived.BigQuiet
namespace Go.Proofs.Ytljdnahomhbenaa
section
open Go.RowKit Go.Sort

/-- w' is w after some draws, with some blocks laid behind it. -/
def Gr (w w' : World) : Prop := ∃ q os, w' = grow (w.drewN q) os
theorem Gr.refl (w : World) : Gr w w := ⟨0, #[], by simp [World.drewN_zero]⟩
theorem Gr.alloc {w w' : World} (h : Gr w w') (o : Obj) : Gr w (w'.alloc o) := by
  obtain ⟨q, os, rfl⟩ := h
  exact ⟨q, os ++ #[o], by rw [alloc_eq_grow, grow_grow]⟩
theorem Gr.drew {w w' : World} (h : Gr w w') : Gr w w'.drew := by
  obtain ⟨q, os, rfl⟩ := h
  exact ⟨q + 1, os, rfl⟩
theorem Gr.drewN {w w' : World} (h : Gr w w') (n : Nat) : Gr w (w'.drewN n) := by
  obtain ⟨q, os, rfl⟩ := h
  exact ⟨q + n, os, by show grow ((w.drewN q).drewN n) os = _; rw [World.drewN_drewN]⟩
theorem Gr.trans {a b c : World} (h : Gr a b) (k : Gr b c) : Gr a c := by
  obtain ⟨q, os, rfl⟩ := h
  obtain ⟨q', os', rfl⟩ := k
  exact ⟨q + q', os ++ os', by show grow (grow ((a.drewN q).drewN q') os) os' = _; rw [grow_grow, World.drewN_drewN]⟩
theorem Gr.setCell {w w' : World} (h : Gr w w') {p : Addr} (hp : w.heap.size ≤ p.block) (v : Value) : Gr w (w'.setCell p v) := by
  obtain ⟨q, os, rfl⟩ := h
  have e : ∀ f : Obj → Obj, ({ grow (w.drewN q) os with heap := (grow (w.drewN q) os).heap.modify p.block f } : World) = grow (w.drewN q) (os.modify (p.block - w.heap.size) f) := fun f => by
    show ({ w.drewN q with heap := (w.heap ++ os).modify p.block f } : World) = { w.drewN q with heap := w.heap ++ os.modify (p.block - w.heap.size) f }
    rw [modify_append_right _ _ _ _ hp]
  exact ⟨q, _, e _⟩
theorem Gr.below {w w' : World} (h : Gr w w') : Below w.heap.size w w' := by
  obtain ⟨q, os, rfl⟩ := h
  exact ⟨rfl, rfl, rfl, by simp, fun k hk => by simpa using heap_grow_old (w.drewN q) os hk⟩
theorem Gr.size {w w' : World} (h : Gr w w') : w.heap.size ≤ w'.heap.size := h.below.size
theorem Gr.cells {w w' : World} (h : Gr w w') : (∀ b o, b < w.heap.size → w'.cell? ⟨b, o, none⟩ = w.cell? ⟨b, o, none⟩) ∧ (∀ b o, b < w.heap.size → w'.frozen? ⟨b, o, none⟩ = w.frozen? ⟨b, o, none⟩) :=
  ⟨fun b o h' => h.below.cell (p := ⟨b, o, none⟩) h', fun b o h' => h.below.frozen (p := ⟨b, o, none⟩) h'⟩

theorem run52 (x y c : Int) (hx : 0 ≤ x) (hx' : x < 18446744073709551616) (hy : 0 ≤ y) (hy' : y < 18446744073709551616) (hc0 : 0 ≤ c) (hc : c ≤ 1) (w : World) :
    (callFunc 143 #[.int .u64 x, .int .u64 y, .int .u64 c]).run Try.prog w =
      .ok (.value (.tuple #[.int .u64 (difLo x y c), .int .u64 (difCar x y c)])) w := by
  obtain ⟨X, rfl⟩ := Int.eq_ofNat_of_zero_le hx
  obtain ⟨Y, rfl⟩ := Int.eq_ofNat_of_zero_le hy
  obtain ⟨C, rfl⟩ := Int.eq_ofNat_of_zero_le hc0
  rw [run_callFunc_extern Try.func143 (by kernel_rfl) (by kernel_rfl) (by kernel_rfl) (e := sub64Entry) (by kernel_rfl), run_sub64 X Y C (by omega)]
  have e1 : (((X + 18446744073709551616 - Y - C) % 18446744073709551616 : Nat) : Int) = difLo X Y C := by unfold difLo; omega
  have e2 : ((if X < Y + C then 1 else 0 : Nat) : Int) = difCar X Y C := by unfold difCar; split <;> split <;> omega
  rw [e1, e2]
  rfl

set_option maxHeartbeats 400000 in
theorem sub_any (m n : Int) (w : World) :
    Calls Try.prog 141 #[.agg #[.int .i64 (hiI m), .int .u64 (loI m)], .agg #[.int .i64 (hiI n), .int .u64 (loI n)]] w fun e w' => e = .returned (.agg #[.int .i64 (hiI (m - n)), .int .u64 (loI (m - n))]) ∧ Gr w w' := by
  obtain ⟨h1, h1'⟩ := loI_bd m
  obtain ⟨h2, h2'⟩ := loI_bd n
  obtain ⟨h3, h3'⟩ := wrap_u64_bd (hiI m)
  obtain ⟨h4, h4'⟩ := wrap_u64_bd (hiI n)
  obtain ⟨h5, h6⟩ := sub_car m n
  go_enter Try.func141, Try.ntmps141
  go_wp2_with (simp only [run52 (loI m) (loI n) 0 h1 (by omega) h2 (by omega) (by omega) (by omega), run52 _ _ _ h3 h3' h4 h4' h5 h6])
  refine bodyPost_ret (v := .agg #[.int .i64 (hiI (m - n)), .int .u64 (loI (m - n))]) (by simp [results, Try.results141, go_sem, sub_lo, sub_hi64]) rfl ⟨rfl, ?_⟩
  exact (((Gr.refl _).alloc _).alloc _).alloc _

set_option maxHeartbeats 400000 in
theorem cmp64_any (a b : Int) (w : World) :
    Calls Try.prog 97 #[.int .i64 a, .int .i64 b] w fun e w' => e = .returned (.int .i64 (cmpI a b)) ∧ w' = w := by
  by_cases h : a < b
  · have e : cmpI a b = -1 := by unfold cmpI; rw [if_pos h]
    rw [e]
    clear e
    go_enter Try.func97, Try.ntmps97
    go_wp2
    go_ret
    exact ⟨rfl, rfl⟩
  · by_cases h' : b < a
    · have e : cmpI a b = 1 := by unfold cmpI; rw [if_neg h, if_pos h']
      rw [e]
      clear e
      go_enter Try.func97, Try.ntmps97
      go_wp2
      go_ret
      exact ⟨rfl, rfl⟩
    · have e : cmpI a b = 0 := by unfold cmpI; rw [if_neg h, if_neg h']
      rw [e]
      clear e
      go_enter Try.func97, Try.ntmps97
      go_wp2
      go_ret
      exact ⟨rfl, rfl⟩

set_option maxHeartbeats 400000 in
theorem cmpu64_any (a b : Int) (w : World) :
    Calls Try.prog 98 #[.int .u64 a, .int .u64 b] w fun e w' => e = .returned (.int .i64 (cmpI a b)) ∧ w' = w := by
  by_cases h : a < b
  · have e : cmpI a b = -1 := by unfold cmpI; rw [if_pos h]
    rw [e]
    clear e
    go_enter Try.func98, Try.ntmps98
    go_wp2
    go_ret
    exact ⟨rfl, rfl⟩
  · by_cases h' : b < a
    · have e : cmpI a b = 1 := by unfold cmpI; rw [if_neg h, if_pos h']
      rw [e]
      clear e
      go_enter Try.func98, Try.ntmps98
      go_wp2
      go_ret
      exact ⟨rfl, rfl⟩
    · have e : cmpI a b = 0 := by unfold cmpI; rw [if_neg h, if_neg h']
      rw [e]
      clear e
      go_enter Try.func98, Try.ntmps98
      go_wp2
      go_ret
      exact ⟨rfl, rfl⟩

set_option maxHeartbeats 400000 in
theorem cmp_any (m n : Int) (hm : inI m) (hn : inI n) (w : World) :
    Calls Try.prog 66 #[.agg #[.int .i64 (hiI m), .int .u64 (loI m)], .agg #[.int .i64 (hiI n), .int .u64 (loI n)]] w fun e w' => e = .returned (.int .i64 (cmpI m n)) ∧ Gr w w' := by
  by_cases h : hiI m = hiI n
  · by_cases l : loI m = loI n
    · have H := cmp_same hm hn h l
      rw [H]
      have h1 : (hiI m == hiI n) = true := by simp [h]
      have h2 : (loI m == loI n) = true := by simp [l]
      clear H h l hm hn
      go_enter Try.func66, Try.ntmps66
      go_wp2
      go_ret
      exact ⟨rfl, ((Gr.refl _).alloc _).alloc _⟩
    · have H : Hid (cmpI (loI m) (loI n) = cmpI m n) := cmp_lo hm hn h
      have h1 : (hiI m == hiI n) = true := by simp [h]
      have h2 : (loI m == loI n) = false := by simp [l]
      clear h l hm hn
      go_enter Try.func66, Try.ntmps66
      go_wp2_with (go_at_call 98; refine (cmpu64_any _ _ _).mono ?_; rintro e w' ⟨rfl, rfl⟩)
      go_ret
      exact ⟨by rw [H.out]; rfl, ((Gr.refl _).alloc _).alloc _⟩
  · have H : Hid (cmpI (hiI m) (hiI n) = cmpI m n) := cmp_hi hm hn h
    have h1 : (hiI m == hiI n) = false := by simp [h]
    clear h hm hn
    go_enter Try.func66, Try.ntmps66
    go_wp2_with (go_at_call 97; refine (cmp64_any _ _ _).mono ?_; rintro e w' ⟨rfl, rfl⟩)
    go_ret
    exact ⟨by rw [H.out]; rfl, ((Gr.refl _).alloc _).alloc _⟩

set_option maxHeartbeats 400000 in
theorem neg_any (m : Int) (w : World) :
    Calls Try.prog 134 #[.agg #[.int .i64 (hiI m), .int .u64 (loI m)]] w fun e w' => e = .returned (.agg #[.int .i64 (hiI (-m)), .int .u64 (loI (-m))]) ∧ Gr w w' := by
  go_enter Try.func134, Try.ntmps134
  go_wp2_with fail
  have h := sub_any 0 m ((w.alloc (Obj.cells #[Value.int IntKind.i64 (hiI m), Value.int IntKind.u64 (loI m)] 71)).alloc (Obj.cells #[Value.int IntKind.i64 0, Value.int IntKind.u64 0] 71))
  rw [hiI_zero, loI_zero, Int.zero_sub] at h
  refine h.mono ?_
  rintro e w' ⟨rfl, hg⟩
  clear h
  obtain ⟨hc, hf⟩ := hg.cells
  have hz : w.heap.size + 1 < w'.heap.size := by have := hg.size; simp at this; omega
  go_wp2
  refine bodyPost_ret (v := .agg #[.int .i64 (hiI (-m)), .int .u64 (loI (-m))]) (by simp [results, Try.results134, go_sem, hc]) rfl ⟨rfl, ?_⟩
  exact (((((Gr.refl _).alloc _).alloc _).trans hg).setCell (by simp) _).setCell (by simp) _

theorem cmp0_any (m : Int) (hm : inI m) (w : World) :
    Calls Try.prog 66 #[.agg #[.int .i64 (hiI m), .int .u64 (loI m)], .agg #[.int .i64 0, .int .u64 0]] w fun e w' => e = .returned (.int .i64 (cmpI m 0)) ∧ Gr w w' := by
  have h := cmp_any m 0 hm inI_zero w
  rw [hiI_zero, loI_zero] at h
  exact h
end
section
open Go.RowKit Go.Sort

theorem of_lo (v : Int) : IntKind.u64.wrap v = loI v := by rw [IntKind.wrap_u64]; rfl
theorem of_hi {v : Int} (h0 : -9223372036854775808 ≤ v) (h1 : v ≤ 9223372036854775807) : v / 9223372036854775808 = hiI v := by unfold hiI; omega

theorem low_in (m : Int) : -9223372036854775808 ≤ wrap64 (loI m) ∧ wrap64 (loI m) ≤ 9223372036854775807 := by unfold wrap64; omega
theorem low_lo (m : Int) : loI (wrap64 (loI m)) = loI m := by unfold loI wrap64; omega
theorem low_hi {m : Int} (hm : inI m) : hiI (wrap64 (loI m)) = hiI m ↔ (-9223372036854775808 ≤ m ∧ m ≤ 9223372036854775807) := by unfold inI hiI loI wrap64 at *; omega
theorem low_same {m : Int} (h : -9223372036854775808 ≤ m ∧ m ≤ 9223372036854775807) : wrap64 (loI m) = m := by unfold loI wrap64; omega
end
end Go.Proofs.Ytljdnahomhbenaa

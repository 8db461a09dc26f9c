/- The law's moved. -/
import Derived.Test.YtpdhknclhpifkabTn
import Derived.Lib.QuietBelow
namespace Go.Proofs.Ytpdhknclhpifkab
open Go.RowKit Go.Shelf Go.Sort

theorem w6432 (z : Int) : wrap64 (wrap32 z) = wrap32 z := by unfold wrap64 wrap32; omega
theorem row_base {w : World} {base base' : Nat} {e : TypeId} {size : Nat} {v : Value} {n : Nat} {xs : List Value} (h : w.ownsRow base e size v n xs) (hb : base' ≤ base) : w.ownsRow base' e size v n xs :=
  ⟨h.1, h.2.imp id fun ⟨g, cap, cur, e1, e2, r⟩ => ⟨g, cap, cur, e1, Nat.le_trans hb e2, r⟩⟩
theorem take_one (L : List (Int × Int)) (k : Nat) (h : k < L.length) : L.take (k + 1) = L.take k ++ [((L.getD k (0, 0)).1, (L.getD k (0, 0)).2)] := by
  have e : L.getD k (0, 0) = L[k] := by simp [List.getD, h]
  rw [e, ← List.take_append_getElem h]

set_option maxRecDepth 100000 in
set_option maxHeartbeats 8000000 in
theorem moved_any (ao : Option Addr) (cap : Nat) (L : List (Int × Int)) (hL : All32 L) (hlen : L.length ≤ 17592186043904) (d : Int × Int) (hd : P32 d) (w : World) (hP : Pts w ao L) :
    Calls Try.prog 12 #[.slice ao L.length cap, pt d.1 d.2] w fun e w' => ∃ sv ok, e = .returned (.tuple #[sv, .bool ok]) ∧ (ok = true → w'.ownsRow w.heap.size 25 2 sv L.length (flat (L.map (sh d))) ∧ All32 (L.map (sh d))) ∧ (ok = false → sv = .slice none 0 0) ∧ Below w.heap.size w w' := by
  obtain ⟨i0, hi, hz0, hz1, hz2⟩ := info_parts Try.info25
  have HP : Hid (Pts w ao L) := hP
  clear hP
  have g : Gr w (w.alloc (.cells #[.int .i32 d.1, .int .i32 d.2] 25)) := (Gr.refl _).alloc _
  have q := PtB.new w d
  have hd1 := hd.1
  have hd2 := hd.2
  unfold in32 at hd1 hd2
  go_enter Try.func12, Try.ntmps12
  go_wp2
  generalize w.alloc (.cells #[.int .i32 d.1, .int .i32 d.2] 25) = w0 at *
  go_loopw [6, 7] (fun s i wr => ∃ k : Nat, k ≤ L.length ∧ i = .int .i64 k ∧ wr.ownsRow w0.heap.size 25 2 s k (flat ((L.take k).map (sh d))) ∧ Hid (All32 ((L.take k).map (sh d))) ∧ Below w0.heap.size w0 wr) (fun _ i _ => L.length - (intOf i).toNat)
  case atStart => exact ⟨0, by omega, rfl, World.ownsRow_nil _ _ _ _, (by intro p hp; simp at hp), Below.refl _ _⟩
  case round =>
    obtain ⟨k, hk, rfl, hown, hall, hB⟩ := hrel
    have hBw : Below w.heap.size w wr := g.below.trans (hB.mono g.size)
    have hsz := hBw.size
    by_cases hlt : k < L.length
    · obtain ⟨b, off, rfl, c0, c1⟩ := (HP.out.mono hBw).get hlt
      have hX : P32 (L.getD k (0, 0)) := by rw [← pAt_lt hlt]; exact pAt_32 hL k
      have hst : Hid ((L.take (k + 1)).map (sh d) = (L.take k).map (sh d) ++ [((L.getD k (0, 0)).1 + d.1, (L.getD k (0, 0)).2 + d.2)]) := by unfold Hid; rw [take_one L k hlt, List.map_append]; rfl
      obtain ⟨hX1, hX2⟩ := hX
      unfold in32 at hX1 hX2
      have qw := q.mono hB q.lt
      generalize (L.getD k (0, 0)).1 = X at *
      generalize (L.getD k (0, 0)).2 = Y at *
      have x0 := fun d os => cell_regrown c0 d os
      have y0 := fun d os => cell_regrown qw.c0 d os
      have xn : wrap64 (X + d.1) = X + d.1 := by unfold wrap64; omega
      have yn : wrap64 (Y + d.2) = Y + d.2 := by unfold wrap64; omega
      clear HP
      go_wp2
      refine wp_region_quiet_below (by kernel_rfl) (by kernel_rfl) ?_
      repeat (go_big_quiet_step (fail))
      refine wpQuiet_nil ?_
      intro _ hw'
      obtain ⟨⟨dq, osq⟩, hw''⟩ := hw'
      subst hw''
      have hb5 := below_regrown wr dq osq
      have hown5 := hown.kept (⟨hb5.os, hb5.tape, hb5.output, hb5.size, fun k hk _ => hb5.block k hk⟩ : wr.grownBy (grow (redrawn wr dq) osq) none) (by cases u6.ownBlock <;> simp)
      have x1 := fun d os => cell_regrown (below_cell c1 hb5) d os
      have y1 := fun d os => cell_regrown (below_cell qw.c1 hb5) d os
      generalize grow (redrawn wr dq) osq = w5 at *
      go_wp2
      refine wp_region_quiet_below (by kernel_rfl) (by kernel_rfl) ?_
      repeat (go_big_quiet_step (fail))
      refine wpQuiet_nil ?_
      intro _ hw'
      obtain ⟨⟨dq2, osq2⟩, hw''⟩ := hw'
      subst hw''
      have hb6' := below_regrown w5 dq2 osq2
      have hown6 := hown5.kept (⟨hb6'.os, hb6'.tape, hb6'.output, hb6'.size, fun k hk _ => hb6'.block k hk⟩ : w5.grownBy (grow (redrawn w5 dq2) osq2) none) (by cases u6.ownBlock <;> simp)
      have hb6 : Below w0.heap.size w0 (grow (redrawn w5 dq2) osq2) := hB.trans ((hb5.trans (hb6'.mono hb5.size)).mono hB.size)
      generalize grow (redrawn w5 dq2) osq2 = w6 at *
      clear x0 y0 x1 y1 hown5 hb5 hb6' qw
      have hBw6 : Below w.heap.size w w6 := g.below.trans (hb6.mono g.size)
      have hsz6 := hBw6.size
      by_cases hx : wrap32 (X + d.1) = X + d.1
      · by_cases hy : wrap32 (Y + d.2) = Y + d.2
        · have hin : P32 (X + d.1, Y + d.2) := by
            constructor
            · unfold in32; unfold wrap32 at hx; omega
            · unfold in32; unfold wrap32 at hy; omega
          have hall2 : Hid (All32 ((L.take (k + 1)).map (sh d))) := by
            unfold Hid
            rw [hst.out]
            intro p hp
            rcases List.mem_append.1 hp with hp | hp
            · exact hall.out p hp
            · simp at hp; subst hp; exact hin
          clear hin hall
          obtain ⟨U, hU⟩ : ∃ U, U = X + d.1 := ⟨_, rfl⟩
          obtain ⟨V, hV⟩ : ∃ V, V = Y + d.2 := ⟨_, rfl⟩
          rw [← hU] at hx hst xn ⊢
          rw [← hV] at hy hst yn ⊢
          clear hU hV hX1 hX2 hd1 hd2
          go_wp2_with (at_builtin; refine wpList_append_own _ rfl (.tmp 54) (.tmp 56) 22 rfl w0.heap.size 25 i0 (.agg #[.int .i32 0, .int .i32 0]) 2 8 Try.underlying22 hi hz0 hz1 hz2 rfl (by decide) _ k _ rfl ((hown6.alloc _).alloc _) ⟨w6.heap.size + 1, 0, none⟩ 1 1 [.int .i32 U, .int .i32 V] rfl rfl (by have := one_cells (w6.alloc (.cells #[.int .i32 U, .int .i32 V] 25)) (.int .i32 U) (.int .i32 V); rwa [World.size_alloc] at this) (fun u hu => by simp at hu; rcases hu with rfl | rfl <;> rfl) (by unfold maxLen; omega) (by omega) (by have := hb6.size; simp; omega) ?_; intro sv w7 hown7 hgrow _)
          have hg7 : ((w6.alloc (.cells #[.int .i32 U, .int .i32 V] 25)).alloc (.cells #[.int .i32 U, .int .i32 V] 25)).grownBy w7 u6.ownBlock := hgrow
          have hb7 : Below w0.heap.size w0 w7 := ((hb6.alloc hb6.size _).alloc (by simp; have := hb6.size; omega) _).grown hg7 (by have := hb6.size; simp; omega) (fun j hj => (hown6.lt j hj).1)
          refine ⟨⟨k + 1, by omega, by go_num, by rw [hst.out, flat_one]; exact hown7, hall2, hb7⟩, by simp [intOf]; omega⟩
        · have hy' : (wrap64 (wrap32 (Y + d.2)) != Y + d.2) = true := by rw [w6432]; simpa using hy
          go_wp2
          refine bodyPost_ret (v := .tuple #[.slice none 0 0, .bool false]) (by simp [results, Try.results12, go_sem]) rfl ⟨_, _, rfl, (fun h => by cases h), (fun _ => rfl), hBw6.alloc hsz6 _⟩
      · have hx' : (wrap64 (wrap32 (X + d.1)) != X + d.1) = true := by rw [w6432]; simpa using hx
        go_wp2
        refine bodyPost_ret (v := .tuple #[.slice none 0 0, .bool false]) (by simp [results, Try.results12, go_sem]) rfl ⟨_, _, rfl, (fun h => by cases h), (fun _ => rfl), hBw6.alloc hsz6 _⟩
    · have hkn : k = L.length := by omega
      subst hkn
      have hall' := hall.out
      rw [List.take_length] at hown hall'
      replace hall' : Hid (All32 (L.map (sh d))) := hall'
      clear hall
      go_wp2
      refine bodyPost_ret (v := .tuple #[u6, .bool true]) (by simp [results, Try.results12, go_sem]) rfl ⟨_, _, rfl, (fun _ => ⟨row_base hown g.size, hall'.out⟩), (fun h => by cases h), hBw⟩
end Go.Proofs.Ytpdhknclhpifkab

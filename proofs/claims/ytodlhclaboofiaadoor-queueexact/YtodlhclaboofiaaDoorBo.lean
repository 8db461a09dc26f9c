/- The two rings and the document's beside one another; the law's books. -/
import Derived.Test.YtodlhclaboofiaaDoorSa
import Derived.Test.YtodlhclaboofiaaDoorPt
import Derived.Test.YtodlhclaboofiaaDoorR5
set_option linter.unusedSimpArgs false
set_option linter.unusedVariables false
namespace Go.Proofs.YtodlhclaboofiaaDoor
open Go.RowKit Go.Sort

/-- One set of books. -/
structure Same (s t : RS) : Prop where
  n : t.n = s.n
  low : t.low = s.low
  high : t.high = s.high
  pr : t.pr = s.pr
  pk : t.pk = s.pk
  rf : t.rf = s.rf
theorem bk_ne {w : World} {a b : Nat} {t u : TypeId} {l m : List Value} (h : Bk w a t l) (k : Bk w b u m) (htu : t ≠ u) : a ≠ b := by
  rintro rfl
  unfold Bk at h k
  rw [h] at k
  cases k
  exact htu rfl
/-- A ring of texts, one of pairs and the document's hold the values L. -/
structure Tri (w : World) (T1 B1 T2 B2 R : Nat) (s1 s2 s3 : RS) (v : Value) (L : List Int) : Prop where
  p : sIs w T1 B1 s1
  q : pIs w T2 B2 s2
  r : RefIs w R s3 v L
  ok1 : s1.Ok L
  ok2 : s2.Ok L
  e2 : Same s1 s2
  e3 : Same s1 s3
theorem Tri.gr {w w' : World} {T1 B1 T2 B2 R : Nat} {s1 s2 s3 : RS} {v : Value} {L : List Int} (h : Tri w T1 B1 T2 B2 R s1 s2 s3 v L) (g : Gr w w') : Tri w' T1 B1 T2 B2 R s1 s2 s3 v L := ⟨h.p.gr g, h.q.gr g, h.r.gr g, h.ok1, h.ok2, h.e2, h.e3⟩
theorem Tri.below {w w' : World} {T1 B1 T2 B2 R : Nat} {s1 s2 s3 : RS} {v : Value} {L : List Int} (h : Tri w T1 B1 T2 B2 R s1 s2 s3 v L) (g : Below w.heap.size w w') : Tri w' T1 B1 T2 B2 R s1 s2 s3 v L := ⟨h.p.below g, h.q.below g, h.r.below g, h.ok1, h.ok2, h.e2, h.e3⟩
theorem calls_d {f : Nat} {args : Array Value} {x : Value} {w : World} (h : ∀ m, Calls Tryd.prog f args (w.drewN m) fun e w' => e = .returned x ∧ w' = w.drewN m) : Hid (∀ m, Calls Tryd.prog f args (w.drewN m) fun e w' => e = .returned x ∧ ∃ m, w' = w.drewN m) := fun m => (h m).mono (fun e w' k => ⟨k.1, m, k.2⟩)
theorem calls_more {f : Nat} {args : Array Value} {x : Value} {w : World} (h2 : ∀ m, Calls Tryd.prog f args (w.drewN m) fun e w' => e = .returned x ∧ w' = w.drewN m) (q : Nat) : Hid (∀ m, Calls Tryd.prog f args ((w.drewN q).drewN m) fun e w' => e = .returned x ∧ ∃ m, w' = (w.drewN q).drewN m) := fun m => by
  have := h2 (q + m)
  rw [← World.drewN_drewN] at this
  exact this.mono (fun e w' k => ⟨k.1, m, k.2⟩)
theorem cells_more {w : World} {a : Addr} {x : Value} (h : ∀ m, (w.drewN m).cell? a = some x) (q m : Nat) : ((w.drewN q).drewN m).cell? a = some x := by rw [World.drewN_drewN]; exact h _
set_option maxHeartbeats 4000000 in
set_option maxRecDepth 100000 in
theorem books_any (T1 B1 T2 B2 R : Nat) (s1 s2 s3 : RS) (v : Value) (L : List Int) (w : World) (h : Tri w T1 B1 T2 B2 R s1 s2 s3 v L) :
    Calls Tryd.prog 11 #[.pointer (some ⟨T1, 0, none⟩), .pointer (some ⟨T2, 0, none⟩), .pointer (some ⟨R, 0, none⟩)] w fun e w' => e = .returned (.bool true) ∧ ∃ m, w' = w.drewN m := by
  obtain ⟨ao, cap, rfl⟩ := h.r.sl
  have g := fun m => (Gr.refl w).drewN m
  have n1 := h.ok1.n1
  have n2 := h.ok1.n2
  have m1 := h.ok2.n1
  have m2 := h.ok2.n2
  have hc1 := h.ok1.cL
  have hc2 := h.ok2.cL
  have hcn := h.ok1.cn
  have A1 := calls_d (fun m => s_len T1 B1 s1 _ (h.p.gr (g m)) n1)
  have A2 := calls_d (fun m => s_free T1 B1 s1 _ (h.p.gr (g m)) n1 n2 h.ok1.cn)
  have A3 := calls_d (fun m => s_most T1 B1 s1 _ (h.p.gr (g m)) n1)
  have A4 := calls_d (fun m => s_pressed T1 B1 s1 _ (h.p.gr (g m)) n1)
  have A5 := calls_d (fun m => s_peak T1 B1 s1 _ (h.p.gr (g m)) n1)
  have A6 := calls_d (fun m => s_refused T1 B1 s1 _ (h.p.gr (g m)) n1)
  have C1 : Hid (∀ m, Calls Tryd.prog 46 #[.pointer (some ⟨T2, 0, none⟩)] (w.drewN m) fun e w' => e = .returned _ ∧ w' = w.drewN m) := (fun m => p_len T2 B2 s2 _ (h.q.gr (g m)) m1)
  have C2 : Hid (∀ m, Calls Tryd.prog 47 #[.pointer (some ⟨T2, 0, none⟩)] (w.drewN m) fun e w' => e = .returned _ ∧ w' = w.drewN m) := (fun m => p_free T2 B2 s2 _ (h.q.gr (g m)) m1 m2 h.ok2.cn)
  have C3 : Hid (∀ m, Calls Tryd.prog 48 #[.pointer (some ⟨T2, 0, none⟩)] (w.drewN m) fun e w' => e = .returned _ ∧ w' = w.drewN m) := (fun m => p_pressed T2 B2 s2 _ (h.q.gr (g m)) m1)
  have C4 : Hid (∀ m, Calls Tryd.prog 49 #[.pointer (some ⟨T2, 0, none⟩)] (w.drewN m) fun e w' => e = .returned _ ∧ w' = w.drewN m) := (fun m => p_peak T2 B2 s2 _ (h.q.gr (g m)) m1)
  have c0 := fun m => below_cell h.r.c0 (g m).below
  have c1 := fun m => below_cell h.r.c1 (g m).below
  have c5 := fun m => below_cell h.r.c5 (g m).below
  have c6 := fun m => below_cell h.r.c6 (g m).below
  have c7 := fun m => below_cell h.r.c7 (g m).below
  rw [h.e3.n] at c1
  rw [h.e3.pr] at c5
  rw [h.e3.pk] at c6
  rw [h.e3.rf] at c7
  rw [← hc2] at C1
  rw [h.e2.n, ← hc2] at C2
  rw [h.e2.pr] at C3
  rw [h.e2.pk] at C4
  rw [← hc1] at A1 A2
  have b1 : (0 : Int) ≤ (L.length : Int) := by omega
  have b2 : (L.length : Int) ≤ (s1.n : Int) := by omega
  have b3 : (s1.n : Int) ≤ 65536 := by omega
  have hw : wrap64 ((s1.n : Int) - (L.length : Int)) = (s1.n : Int) - (L.length : Int) := by unfold wrap64; omega
  clear h g n1 n2 m1 m2 hc1 hc2 hcn
  generalize s1.n = n at *
  generalize s1.pr = pr at *
  generalize s1.pk = pk at *
  generalize s1.rf = rf at *
  go_enter Tryd.func11, Tryd.ntmps11
  go_wp2
  refine wp_region_quiet_lit (by kernel_rfl) (by kernel_rfl) ?_
  repeat (go_big_quiet_step (fail))
  go_big_quiet_step (exact A1.out _)
  repeat (go_big_quiet_step (fail))
  go_big_quiet_step (exact A2.out _)
  repeat (go_big_quiet_step (fail))
  go_big_quiet_step (exact A3.out _)
  repeat (go_big_quiet_step (fail))
  go_big_quiet_step (exact A4.out _)
  repeat (go_big_quiet_step (fail))
  go_big_quiet_step (exact A5.out _)
  repeat (go_big_quiet_step (fail))
  go_big_quiet_step (exact A6.out _)
  repeat (go_big_quiet_step (fail))
  refine wpQuiet_nil ?_
  intro _ hw'
  obtain ⟨q1, rfl⟩ := hw'
  clear A1 A2 A3 A4 A5 A6 c7
  have D1 := calls_more C1.out q1
  have D2 := calls_more C2.out q1
  have D3 := calls_more C3.out q1
  have D4 := calls_more C4.out q1
  have d0 := cells_more c0 q1
  have d1 := cells_more c1 q1
  have d5 := cells_more c5 q1
  have d6 := cells_more c6 q1
  have HQ : Hid (∃ m, w.drewN q1 = w.drewN m) := ⟨q1, rfl⟩
  clear c0 c1 c5 c6 C1 C2 C3 C4
  have GW : Hid (∀ m, ∃ m', (w.drewN q1).drewN m = w.drewN m') := fun m => ⟨q1 + m, by rw [World.drewN_drewN]⟩
  generalize w.drewN q1 = W at *
  go_wp2
  refine wp_region_quiet_lit (by kernel_rfl) (by kernel_rfl) ?_
  repeat (go_big_quiet_step (fail))
  go_big_quiet_step (exact D1.out _)
  repeat (go_big_quiet_step (fail))
  go_big_quiet_step (exact D2.out _)
  repeat (go_big_quiet_step (fail))
  go_big_quiet_step (exact D3.out _)
  repeat (go_big_quiet_step (fail))
  go_big_quiet_step (exact D4.out _)
  repeat (go_big_quiet_step (fail))
  refine wpQuiet_nil ?_
  intro _ hw'
  obtain ⟨q2, rfl⟩ := hw'
  go_wp2
  go_ret
  exact ⟨rfl, GW.out q2⟩
end Go.Proofs.YtodlhclaboofiaaDoor

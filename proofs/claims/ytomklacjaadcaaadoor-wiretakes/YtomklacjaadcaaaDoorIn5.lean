/- Contract of Text in every state. -/
import Derived.Test.YtomklacjaadcaaaDoorIn4
namespace Go.Proofs.YtomklacjaadcaaaDoor
open Go.RowKit Go.Sort

set_option maxRecDepth 20000 in
set_option maxHeartbeats 3200000 in
theorem text_ok (i b off cap at' X : Nat) (most : Int) (l : List UInt8) (h1 : at' + 2 + X ≤ l.length) (h2 : l.length ≤ cap) (h3 : l.length ≤ 140737488351232) (hX : X < 65536) (w : World) (hR : Row w i 51 (inL (.slice (some ⟨b, off, none⟩) l.length cap) at' 0)) (hb : By w (some ⟨b, off, none⟩) l) (hne : b ≠ i)
    (HA : Hid (Calls Tryd.prog 87 #[.pointer (some ⟨i, 0, none⟩), .int .i64 most] w fun e w' => e = .returned (.tuple #[.int .i64 (X : Nat), .bool true]) ∧ Gr w w')) :
    Calls Tryd.prog 60 #[.pointer (some ⟨i, 0, none⟩), .int .i64 most] w fun e w' => e = .returned (.string ⟨((l.drop (at' + 2)).take X).toArray⟩) ∧ Row w' i 51 (inL (.slice (some ⟨b, off, none⟩) l.length cap) (at' + 2 + X) 0) ∧ w.grownBy w' (some i) := by
  have HB : Hid (∀ w', Gr w w' → Calls Tryd.prog 76 #[.pointer (some ⟨i, 0, none⟩), .int .i64 (2 + (X : Int))] w' fun e w2 => e = .returned (.tuple #[.slice (some ⟨b, off + at', none⟩) (2 + X) (cap - at'), .bool true]) ∧ Gr w' w2) := fun w' g => by
    have := ahead_ok i b off l.length cap at' (2 + X) (by omega) (by omega) h2 h3 w' (hR.below g.below hR.lt)
    rw [show ((2 + X : Nat) : Int) = 2 + (X : Int) from by omega] at this
    exact this
  have HR := hid' hR
  have HY := hid' (hb.piece (at' + 2) X)
  have hyl : ((l.drop (at' + 2)).take X).length = X := by simp; omega
  clear hb hR
  generalize (l.drop (at' + 2)).take X = s at *
  have hc2 : cap - at' = 2 ∨ cap - at' ≠ 2 := by omega
  go_enter Tryd.func60, Tryd.ntmps60
  go_upto_region 7 with (first
    | (go_at_call 87; refine HA.out.mono ?_; rintro e w2 ⟨rfl, g2⟩)
    | (go_at_call 76; refine (HB.out _ g2).mono ?_; rintro e w3 ⟨rfl, g3⟩))
  have R2 := HR.out.below (g2.trans g3).below HR.out.lt
  have c1 : w3.cell? ⟨i, 1, none⟩ = some (.int .i64 (at' : Nat)) := R2.cell 1
  have f1 := R2.frozen 1
  have R3 : Hid (Row (w3.setCell ⟨i, 1, none⟩ (.int .i64 ((at' : Int) + (2 + (X : Int))))) i 51 (inL (.slice (some ⟨b, off, none⟩) l.length cap) (at' + 2 + X) 0)) := by
    have := R2.set 1 (.int .i64 ((at' + 2 + X : Nat)))
    rw [show ((at' + 2 + X : Nat) : Int) = (at' : Int) + (2 + (X : Int)) from by omega] at this
    exact (show (inL (.slice (some ⟨b, off, none⟩) l.length cap) at' 0).set 1 (.int .i64 ((at' : Int) + (2 + (X : Int)))) = inL (.slice (some ⟨b, off, none⟩) l.length cap) (at' + 2 + X) 0 from by unfold inL; simp; omega) ▸ this
  have G3 : Hid (w.grownBy (w3.setCell ⟨i, 1, none⟩ (.int .i64 ((at' : Int) + (2 + (X : Int))))) (some i)) := grown_trans (below_grown (g2.trans g3).below _) (setCells_grown [_] 1 w3)
  have hby := HY.out.grown G3.out (by intro a e; cases e; simpa using hne)
  have s1 := run_str (cap := cap - at' - 2) hyl (fun h => by cases h) hby
  have s2 : cap - at' = 2 → (convert 31 9 (.slice (some ⟨b, off + at', none⟩) X (cap - at' - 2))).run Tryd.prog (w3.setCell ⟨i, 1, none⟩ (.int .i64 ((at' : Int) + (2 + (X : Int))))) = .ok (.string ⟨s.toArray⟩) (w3.setCell ⟨i, 1, none⟩ (.int .i64 ((at' : Int) + (2 + (X : Int))))) := fun hc => by
    have hX0 : X = 0 := by omega
    exact run_str hyl (fun h => by cases h) (fun i hi => by omega)
  clear HY HR R2 g2 g3 HA HB hby
  rw [← Nat.add_assoc] at s1
  go_upto_region 8 with fail
  generalize w3.setCell ⟨i, 1, none⟩ (.int .i64 ((at' : Int) + (2 + (X : Int)))) = W3 at *
  have hC : 2 + X ≤ cap - at' := by omega
  generalize cap - at' = C at *
  rcases hc2 with rfl | hc2
  · obtain rfl : X = 0 := by omega
    have s3 := s2 rfl
    clear s2 s1
    go_wp2
    go_ret
    exact ⟨rfl, R3.out, G3.out⟩
  · clear s2
    go_wp2
    go_ret
    exact ⟨rfl, R3.out, G3.out⟩
/-- What a text gives. -/
def txtOK (l : List UInt8) (most : Int) (at' f : Nat) : Prop := f = 0 ∧ at' + 2 ≤ l.length ∧ (num2 l at' : Int) ≤ max most 0 ∧ at' + 2 + num2 l at' ≤ l.length
theorem text_nil (most : Int) (w : World) : Calls Tryd.prog 60 #[.pointer none, .int .i64 most] w fun e w' => e = .returned (.string ⟨#[]⟩) ∧ w' = w :=
  text_none _ most w (fun w' => w' = w) (atmost_none _ most w (fun w' => w' = w) (ahead_nil 2 w))
/-- A text that is there. -/
theorem text_yes (i at' : Nat) (most : Int) (l : List UInt8) (w : World) (h : InIs w i l at' 0) (ht : txtOK l most at' 0) :
    Calls Tryd.prog 60 #[.pointer (some ⟨i, 0, none⟩), .int .i64 most] w fun e w' => e = .returned (.string ⟨((l.drop (at' + 2)).take (num2 l at')).toArray⟩) ∧ InIs w' i l (at' + 2 + num2 l at') 0 ∧ w.grownBy w' (some i) := by
  obtain ⟨ao, cap, h1, h2, h3, h4, h5, h6⟩ := h
  obtain ⟨_, t1, t2, t3⟩ := ht
  obtain ⟨b, off, rfl, _⟩ := h2 0 (by omega)
  refine (text_ok i b off cap at' (num2 l at') most l t3 h3 h6 (num2_lt t1) w h1 h2 (h4 _ rfl) (atmost_ok i b off cap at' most l t1 h3 h6 t2 w h1 h2)).mono ?_
  rintro e w' ⟨rfl, r, g⟩
  exact ⟨rfl, ⟨_, cap, r, h2.grown g (by intro a e; cases e; simpa using h4 _ rfl), h3, h4, t3, h6⟩, g⟩
/-- A text that is not: the fault. -/
def txtF (l : List UInt8) (most : Int) (at' f : Nat) : Nat := if f = 0 then (if at' + 2 ≤ l.length then (if (num2 l at' : Int) ≤ max most 0 then 30 else 31) else 30) else f
theorem text_not (i at' f : Nat) (most : Int) (l : List UInt8) (w : World) (h : InIs w i l at' f) (ht : ¬ txtOK l most at' f) :
    Calls Tryd.prog 60 #[.pointer (some ⟨i, 0, none⟩), .int .i64 most] w fun e w' => e = .returned (.string ⟨#[]⟩) ∧ InIs w' i l at' (txtF l most at' f) ∧ w.grownBy w' (some i) := by
  obtain ⟨ao, cap, h1, h2, h3, h4, h5, h6⟩ := h
  unfold txtF
  by_cases hf : f = 0
  · subst hf
    rw [if_pos rfl]
    by_cases he : at' + 2 ≤ l.length
    · rw [if_pos he]
      obtain ⟨b, off, rfl, _⟩ := h2 0 (by omega)
      by_cases hm : (num2 l at' : Int) ≤ max most 0
      · rw [if_pos hm]
        have hno : ¬ at' + (2 + num2 l at') ≤ l.length := fun hx => ht ⟨rfl, he, hm, by omega⟩
        have hx := num2_lt he
        refine (text_ends _ (num2 l at') hx most w (fun w' => Row w' i 51 (inL (.slice (some ⟨b, off, none⟩) l.length cap) at' 30) ∧ w.grownBy w' (some i)) (atmost_ok i b off cap at' most l he h3 h6 hm w h1 h2) (fun w' g => ?_)).mono ?_
        · have := ahead_ends i l.length cap at' (2 + num2 l at') (some ⟨b, off, none⟩) hno h5 h6 w' (h1.below g.below h1.lt)
          rw [show ((2 + num2 l at' : Nat) : Int) = 2 + (num2 l at' : Int) from by omega] at this
          exact this.mono fun e w2 ⟨e1, e2, e3⟩ => ⟨e1, e2, grown_trans (below_grown g.below _) e3⟩
        · rintro e w' ⟨rfl, r, g⟩
          exact ⟨rfl, ⟨_, cap, r, h2.grown g (by intro a e; cases e; simpa using h4 _ rfl), h3, h4, h5, h6⟩, g⟩
      · rw [if_neg hm]
        refine (text_none _ most w (fun w' => Row w' i 51 (inL (.slice (some ⟨b, off, none⟩) l.length cap) at' 31) ∧ w.grownBy w' (some i)) (atmost_over i b off cap at' most l he h3 h6 (by omega) w h1 h2)).mono ?_
        rintro e w' ⟨rfl, r, g⟩
        exact ⟨rfl, ⟨_, cap, r, h2.grown g (by intro a e; cases e; simpa using h4 _ rfl), h3, h4, h5, h6⟩, g⟩
    · rw [if_neg he]
      refine (text_none _ most w (fun w' => Row w' i 51 (inL (.slice ao l.length cap) at' 30) ∧ w.grownBy w' (some i)) (atmost_none _ most w _ (ahead_ends i l.length cap at' 2 ao he h5 h6 w h1))).mono ?_
      rintro e w' ⟨rfl, r, g⟩
      exact ⟨rfl, ⟨ao, cap, r, h2.grown g (fun a e => by simpa using h4 a e), h3, h4, h5, h6⟩, g⟩
  · rw [if_neg hf]
    refine (text_none _ most w (fun w' => w' = w) (atmost_none _ most w _ (ahead_wrong i 2 f at' hf _ w h1))).mono ?_
    rintro e w' ⟨rfl, rfl⟩
    exact ⟨rfl, ⟨ao, cap, h1, h2, h3, h4, h5, h6⟩, World.grownBy.refl _ _⟩
end Go.Proofs.YtomklacjaadcaaaDoor

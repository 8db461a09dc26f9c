/- A call that reads no memory and draws nothing, run by the kernel: its caller's frames and the world stay as they are. -/
import Derived.Test.YtomklacjaadcaaaDoorBase
namespace Go.Proofs.YtomklacjaadcaaaDoor
open Go.RowKit Go.Sort

def isRet : FrameMode → Bool
  | .returning => true
  | _ => false
/-- Steps until the frame of a function is about to leave. -/
def runTo (P : Program) (f : FuncId) : Nat → Machine → Option Machine
  | 0, _ => none
  | n + 1, m =>
    match m.gs[0]? with
    | none => none
    | some g =>
      match g.frame.fn == f && isRet g.frame.mode with
      | true => some m
      | false =>
        match step P m with
        | .next m' => runTo P f n m'
        | _ => none
theorem runTo_steps {P : Program} {f : FuncId} : ∀ {n : Nat} {m m' : Machine}, runTo P f n m = some m' → Steps P m m'
  | 0, _, _, h => by cases h
  | n + 1, m, m', h => by
    unfold runTo at h
    split at h
    · cases h
    · split at h
      · cases h; exact Steps.refl _ _
      · split at h
        · rename_i hs; exact Steps.head hs (runTo_steps h)
        · cases h
theorem runTo_stop {P : Program} {f : FuncId} : ∀ {n : Nat} {m m' : Machine}, runTo P f n m = some m' → ∃ g, m'.gs[0]? = some g ∧ g.frame.fn = f ∧ g.frame.mode = .returning
  | 0, _, _, h => by cases h
  | n + 1, m, m', h => by
    unfold runTo at h
    split at h
    · cases h
    · rename_i g hg
      split at h
      · rename_i hc
        cases h
        rw [Bool.and_eq_true] at hc
        refine ⟨g, hg, by simpa using hc.1, ?_⟩
        have := hc.2
        unfold isRet at this
        split at this
        · assumption
        · cases this
      · split at h
        · exact runTo_stop h
        · cases h
def lastFrame (d : Frame) : Option Machine → Frame
  | some m => match m.gs[0]? with
    | some g => g.frame
    | none => d
  | none => d
/-- A call is what the kernel's run of it shows. -/
theorem calls_run {P : Program} {f : FuncId} {args : Array Value} {w : World} {v : Value} {fn : Func} (n : Nat) (hf : P.funcs[f]? = some fn)
    (h : ∀ cs, runTo P f n (lone (Frame.enter P f args .normal) cs w) = some (lone (lastFrame (Frame.enter P f args .normal) (runTo P f n (lone (Frame.enter P f args .normal) cs w))) cs w))
    (h2 : ∀ cs, ((lastFrame (Frame.enter P f args .normal) (runTo P f n (lone (Frame.enter P f args .normal) cs w))).defers, (lastFrame (Frame.enter P f args .normal) (runTo P f n (lone (Frame.enter P f args .normal) cs w))).kind, (results fn (lastFrame (Frame.enter P f args .normal) (runTo P f n (lone (Frame.enter P f args .normal) cs w))).tmps).run P w) = ([], .normal, .ok v w)) :
    Calls P f args w fun e w' => e = .returned v ∧ w' = w := by
  intro cs
  have h1 := h cs
  have h3 := h2 cs
  generalize lastFrame (Frame.enter P f args .normal) (runTo P f n (lone (Frame.enter P f args .normal) cs w)) = fr at *
  obtain ⟨g, hg, g1, g2⟩ := runTo_stop h1
  have e : g.frame = fr := by
    simp [lone] at hg
    rw [← hg]
  rw [e] at g1 g2
  simp only [Prod.mk.injEq] at h3
  refine ⟨.returned v, w, fr, ⟨rfl, rfl⟩, runTo_steps h1, g1, g2, h3.1, h3.2.1, fn, ?_, h3.2.2⟩
  rw [g1]; exact hf
end Go.Proofs.YtomklacjaadcaaaDoor

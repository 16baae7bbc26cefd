/- A script's call. -/
import Derived.Test.YtoiikmfdoadkpaaSeDo0
import Derived.Test.YtoiikmfdoadkpaaSeDo1
import Derived.Test.YtoiikmfdoadkpaaSeDo2
namespace Go.Proofs.Ytoiikmfdoadkpaa
open Go.RowKit Go.Lib
set_option maxRecDepth 100000
namespace Se
theorem does_any (B : Nat) (w : World) (p : Nat) (v : Value) (l : List Rw) (x : Tb) (m : Nat) (ks : List Kp) (o : Oo) (S : DSt B w p v l x m ks) (hl : l.length ≤ 1099511627775) (hm : m ≤ 1099511627776) (hk : ks.length ≤ 549755813888) : Calls Try.prog 11 #[.pointer (some ⟨p, 0, none⟩), valT x, valO o] w fun e w' => DoEnd B w p v l m ks o e w' := by
  by_cases h0 : o.1 = 0
  · exact does0 B w p v l x m ks o S hl hm h0
  · by_cases h1 : o.1 = 1
    · exact does1 B w p v l x m ks o S hl hk h1
    · by_cases h2 : o.1 = 2
      · exact does2 B w p v l x m ks o S hl hk h2
      · exact doesN B w p v l x m ks o S h0 h1 h2
theorem doL_len (l : List Rw) (o : Oo) : (doL l o).length ≤ l.length + 1 := by
  unfold doL openL keepL
  repeat' split
  all_goals simp
theorem doM_le (m : Nat) (o : Oo) : doM m o ≤ m + 1 := by unfold doM ropenM; split <;> (try split) <;> omega
theorem doK_len (m : Nat) (ks : List Kp) (o : Oo) : (doK m ks o).length ≤ ks.length + 1 := by
  unfold doK rkeepK
  repeat' split
  all_goals simp
/-- What is left when a script has been played. -/
def plays : List Oo → List Rw × Nat × List Kp → List Rw × Nat × List Kp
  | [], s => s
  | o :: r, s => plays r (doL s.1 o, doM s.2.1 o, doK s.2.1 s.2.2 o)
theorem plays_append (a b : List Oo) (s : List Rw × Nat × List Kp) : plays (a ++ b) s = plays b (plays a s) := by
  induction a generalizing s with
  | nil => rfl
  | cons o r ih => exact ih _
theorem plays_step {os : List Oo} {k : Nat} {o : Oo} (h : os[k]? = some o) (s : List Rw × Nat × List Kp) : plays (os.take (k + 1)) s = (doL (plays (os.take k) s).1 o, doM (plays (os.take k) s).2.1 o, doK (plays (os.take k) s).2.1 (plays (os.take k) s).2.2 o) := by
  obtain ⟨hk, ex⟩ := List.getElem?_eq_some_iff.1 h
  rw [List.take_succ_eq_append_getElem hk, ex, plays_append]; rfl
theorem plays_like (os : List Oo) : ∀ (s : List Rw × Nat × List Kp), Like s.1 s.2.1 s.2.2 → Like (plays os s).1 (plays os s).2.1 (plays os s).2.2 := by
  induction os with
  | nil => intro s h; exact h
  | cons o r ih => intro s h; exact ih _ (h.does o).2
theorem plays_len (os : List Oo) : ∀ (s : List Rw × Nat × List Kp), (plays os s).1.length ≤ s.1.length + os.length ∧ (plays os s).2.1 ≤ s.2.1 + os.length ∧ (plays os s).2.2.length ≤ s.2.2.length + os.length := by
  induction os with
  | nil => intro s; exact ⟨Nat.le_refl _, Nat.le_refl _, Nat.le_refl _⟩
  | cons o r ih =>
    intro s
    have h := ih (doL s.1 o, doM s.2.1 o, doK s.2.1 s.2.2 o)
    have h1 := doL_len s.1 o
    have h2 := doM_le s.2.1 o
    have h3 := doK_len s.2.1 s.2.2 o
    simp only [List.length_cons] at *
    simp only [plays]
    omega
end Se
end Go.Proofs.Ytoiikmfdoadkpaa

/- Cut: what the seat's translation lacks is left out. -/
/- Find: a word's weight. -/
import Derived.Test.YthfngcpcccbnpaaDoorWkF
import Derived.Test.YthfngcpcccbnpaaDoorG7
import Derived.Test.YthfngcpcccbnpaaDoorJ7
import Derived.Test.YthfngcpcccbnpaaDoorG8
import Derived.Deep.RegionHeld3
import Derived.Deep.DrawnRows
import Derived.Deep.QuietTactic
import Derived.BigQuiet
import Derived.Test.YthfngcpcccbnpaaDoorG3
namespace Go.Proofs.YthfngcpcccbnpaaDoor
open Go.RowKit Nums Fm Pk Pm
set_option maxRecDepth 100000

theorem built_all {l : List Pr} (h : buildE l = 0) : (∀ x ∈ l, wordB x.1.data.toList = true ∧ 1 ≤ x.2 ∧ x.2 ≤ 1048576) ∧ l.Pairwise (fun a b => lessB a.1 b.1 = true) ∧ l.length ≤ 4096 := by
  unfold buildE at h
  split at h
  · cases h
  · exact ⟨fault_all l none h, (fault_rise l none h).2, by omega⟩
theorem arcs_few {l : List Pr} (h : buildE l = 0) {n : Nat} {s : St} (hs : (machOf l).2[n]? = some s) : (s.arcs.map ofArc).length ≤ 1114112 := by
  have h1 := built_right h
  unfold rightB at h1
  split at h1
  · rename_i h2
    have : (machOf l).2 = [] := by simpa using h2
    rw [this] at hs
    simp at hs
  · simp only [Bool.and_eq_true] at h1
    obtain ⟨⟨⟨⟨⟨_, _⟩, hf⟩, _⟩, _⟩, _⟩ := h1
    have key : ∀ (m : List RSt) (i k : Nat) (t : RSt), formB i m = true → m[k]? = some t → formS t (i + k) = true := fun m => by
      induction m with
      | nil => intro i k t _ hk; simp at hk
      | cons x r ih =>
        intro i k t hf hk
        rw [formB, Bool.and_eq_true] at hf
        cases k with
        | zero => simp at hk; subst hk; exact hf.1
        | succ k => have := ih (i + 1) k t hf.2 (by simpa using hk); rwa [show i + 1 + k = i + (k + 1) by omega] at this
    have h3 := key _ 0 n (ofSt s) hf (by rw [List.getElem?_map, hs]; rfl)
    exact (form_facts h3).2.2
/-- What region 11 looks at. -/
structure S11 (ab : Nat) (o t : Int) (W : World) : Prop where
  c1 : W.cell? ⟨ab, 1, none⟩ = some (.int .i64 o)
  c2 : W.cell? ⟨ab, 2, none⟩ = some (.int .i64 t)
theorem S11.facts {ab : Nat} {o t : Int} {W : World} (h : S11 ab o t W) : W.cell? ⟨ab, 1, none⟩ = some (.int .i64 o) ∧ W.cell? ⟨ab, 2, none⟩ = some (.int .i64 t) := ⟨h.1, h.2⟩
def S4b (wb : Nat) (base : Int) (W : World) : Prop := W.cell? ⟨wb, 0, none⟩ = some (.int .i64 base)
theorem S4b.facts {wb : Nat} {base : Int} {W : World} (h : S4b wb base W) : W.cell? ⟨wb, 0, none⟩ = some (.int .i64 base) := h
end Go.Proofs.YthfngcpcccbnpaaDoor

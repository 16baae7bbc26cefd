/- Texts that were written apart, joined. -/
import Derived.Test.YthfngcpcccbnpaaDoorG8
import Derived.Test.YthfngcpcccbnpaaDoorFRState
import Derived.Test.YthfngcpcccbnpaaDoorG7
/- FstSmallest: the law's own walk. -/
namespace Go.Proofs.YthfngcpcccbnpaaDoor
open Go.RowKit Nums Fm
set_option maxRecDepth 100000

theorem mach_subs {l : List Pr} (h : buildE l = 0) : ∃ D, Inv D (machOf l).2 ∧ ∀ R, R ∈ D ↔ (ents l ≠ [] ∧ Sub (ents l) R) := by
  by_cases hl : l = []
  · subst hl
    exact ⟨[], Inv.nil, fun R => ⟨fun h => (by cases h), fun h => absurd rfl h.1⟩⟩
  · obtain ⟨D, M⟩ := stF_spec 25 [] [] (ents l) Inv.nil (dict_good h hl)
    rw [machOf, if_pos ⟨h, hl⟩]
    refine ⟨D, M.inv, fun R => ⟨fun hR => ⟨ents_ne hl, ?_⟩, fun hR => M.all R hR.2⟩⟩
    rcases M.sub R hR with h | h
    · cases h
    · exact h
end Go.Proofs.YthfngcpcccbnpaaDoor

/- Cut: what the seat's translation lacks is left out. -/
/- The reference's Build, whole. -/
namespace Go.Proofs.YthfngcpcccbnpaaDoor
open Go.RowKit Nums Fm Pm
set_option maxRecDepth 100000

theorem state_top (w : World) (v : Value) (l : List Pr) (hC : buildE l = 0) (hl : l ≠ []) (hr : RR w.heap.size w v (ents l)) : StateTop v l w := by
  have hG := dict_good hC hl
  have hD := dict_ok hC
  obtain ⟨e1, e2⟩ := ref_st 25 [] [] (ents l) Inv.nil hG
  have hM : machOf l = (least (ents l), (stF 25 [] (ents l)).1) := by rw [machOf, if_pos ⟨hC, hl⟩]
  obtain ⟨D, hI, hS⟩ := mach_subs hC
  rw [hM] at hI
  have hDD : (refF 25 [] [] (ents l)).1 = D := inv_one e2 hI
  have hsm := mach_small (l := l)
  rw [hM] at hsm
  have hin : StIn (fun _ => False) 25 w.heap.size w.heap.size w (.slice none 0 0) (.slice none 0 0) v [] [] (ents l) := by
    refine ⟨Inv.nil, hG, AllOwn.nil _ _ _, ⟨⟨[], GOwn.nil _ _ _ _, rfl, fun i s hi => by simp at hi⟩, fun k h => h.elim⟩, hr, Nat.le_refl _, Nat.le_refl _, ?_, fun R hR => ?_, fun e he => ?_⟩
    · rw [hDD, hI.len]
      simp only at hsm ⊢
      omega
    · rw [hDD] at hR
      obtain ⟨h0, hs⟩ := (hS R).1 hR
      obtain ⟨xs, n, hx, k, hk, rfl⟩ := sub_word hs hD.rise h0
      have hb := behind_len (xs.take k) (ents l)
      have hel := ents_len l
      have hl4 := hD.len
      refine ⟨?_, fun e he => ?_⟩
      · have : (level (behind (xs.take k) (ents l))).length = (behind (xs.take k) (ents l)).length := by simp [level, shift]
        omega
      · obtain ⟨y, hy, rfl⟩ := List.mem_map.1 he
        obtain ⟨z, hz, _, h3⟩ := behind_mem _ _ _ hy
        have := hD.en.ln z hz
        simp only
        omega
    · have := hD.en.wt e he
      omega
  refine (refState_any 25 _ _ _ _ _ _ _ _ _ _ hin).mono ?_
  rintro e w' ⟨A', vR', vS', rfl, hK⟩
  obtain ⟨ra, rc, h1⟩ := hK.rests.shape
  obtain ⟨sa, sc, h2⟩ := hK.states.shape
  have h3 : (refF 25 [] [] (ents l)).2.1 = (stF 25 [] (ents l)).1 := by rw [e1]
  have hb : Below w.heap.size w w' := ⟨hK.upd.os, hK.upd.tape, hK.upd.output, hK.upd.size, fun j hj => hK.upd.block j hj (fun h => by rcases h with h | h <;> cases h)⟩
  have hrow := hK.states.row
  rw [h3] at hrow
  subst h1
  subst h2
  exact ⟨_, _, _, _, _, _, _, rfl, hb, hrow⟩
end Go.Proofs.YthfngcpcccbnpaaDoor

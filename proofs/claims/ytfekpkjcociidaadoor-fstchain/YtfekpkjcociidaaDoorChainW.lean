/- FstChain: the law's own walk. -/
import Derived.Test.YtfekpkjcociidaaDoorLevelW
import Derived.Test.YtfekpkjcociidaaDoorRefRunes
namespace Go.Proofs.YtfekpkjcociidaaDoor
open Go.RowKit Nums Fm
set_option maxRecDepth 100000

namespace Fm
def chain : List Int → List St
  | [] => [⟨true, 0, []⟩]
  | c :: t => chain t ++ [⟨false, 0, [⟨c, 0, t.length⟩]⟩]
theorem chain_len : ∀ xs : List Int, (chain xs).length = xs.length + 1
  | [] => rfl
  | c :: t => by rw [chain, List.length_append, chain_len t]; rfl
theorem chain_to : ∀ xs : List Int, ∀ s ∈ chain xs, ∀ a ∈ s.arcs, a.to < xs.length
  | [], s, hs, a, ha => by
    rw [chain, List.mem_singleton] at hs
    subst hs
    cases ha
  | c :: t, s, hs, a, ha => by
    rw [chain] at hs
    rcases List.mem_append.1 hs with h | h
    · have := chain_to t s h a ha
      simp only [List.length_cons]
      omega
    · rw [List.mem_singleton] at h
      subst h
      rw [List.mem_singleton] at ha
      subst ha
      simp
theorem least_one (e : En) : least [e] = e.2 := by simp [least, leastF]
theorem stF_chain : ∀ (xs : List Int) (f : Nat) (wt : Int), xs.length < f → stF f [] [(xs, wt)] = (chain xs, xs.length)
  | [], 0, _, h => by simp at h
  | [], f + 1, wt, _ => by
    rw [stF]
    have h1 : outOf [(([] : List Int), wt)] = 0 := by simp only [outOf, least_one]; omega
    rw [h1]
    rfl
  | c :: t, 0, _, h => by simp at h
  | c :: t, f + 1, wt, h => by
    have ih := stF_chain t f wt (by simp only [List.length_cons] at h; omega)
    rw [stF]
    have hg : grp (restOf [(c :: t, wt)]) = [(c, [(t, wt)])] := rfl
    rw [hg, arF, ih, arF, least_one, least_one]
    simp only [Int.sub_self]
    have hs : (⟨finOf [(c :: t, wt)], outOf [(c :: t, wt)], [⟨c, 0, t.length⟩]⟩ : St) = ⟨false, 0, [⟨c, 0, t.length⟩]⟩ := rfl
    rw [hs, numSt, if_neg, chain, chain_len]
    · rfl
    · intro hm
      have := chain_to t _ hm ⟨c, 0, t.length⟩ (by simp)
      simp at this
end Fm
theorem one_new (w : World) (x : Pr) (T : TypeId) (c : Nat) : PRow (w.alloc (.cells #[.string x.1, .int .i64 x.2] T)) (.slice (some ⟨w.heap.size, 0, none⟩) 1 c) [x] := PRow.one (TwoAt.new w x T)
theorem chain_mach {s : ByteArray} {n : Int} (h : buildE [(s, n)] = 0) : ∃ xs, rs s.data.toList = some xs ∧ xs.length ≤ 24 ∧ machOf [(s, n)] = (n, chain xs) := by
  have hd := dict_ok h
  obtain ⟨xs, h1, h2, h3⟩ := hd.wd (s, n) (by simp)
  refine ⟨xs, h1, h2, ?_⟩
  rw [machOf, if_pos ⟨h, by simp⟩]
  have he : ents [(s, n)] = [(xs, n)] := by simp only [ents, List.map_cons, List.map_nil, entOf, h1]; rfl
  rw [he, least_one, stF_chain xs 25 n (by omega)]
set_option maxHeartbeats 2000000 in
theorem chain_walk (s : ByteArray) (n : Int) (w : World) (ht : Tabs w) (hs : s.size ≤ maxLen) (_ : (Lit.int .i64 n).wf = true) :
    Calls Tryd.prog 10 #[.string s, .int .i64 n] w fun e w' => e = .returned (.bool true) ∧ Below w.heap.size w w' := by
  have hb0 : ∀ o, Below w.heap.size w (w.alloc o) := fun o => (Below.refl _ w).alloc (Nat.le_refl _) o
  have hs' : s.size ≤ 9223372036854775807 := by simp only [maxLen] at hs; omega
  obtain ⟨w0, hw0⟩ : ∃ w0, w0 = w.alloc (.cells #[.string s, .int .i64 n] 40) := ⟨_, rfl⟩
  have HP := Build_any w0 (.slice (some ⟨w.heap.size, 0, none⟩) 1 1) [(s, n)] (by rw [hw0]; exact one_new w (s, n) _ 1) (by simp) (fun x hx => by rw [List.mem_singleton] at hx; subst hx; exact hs') (by rw [hw0]; exact ht.below (hb0 _))
  obtain ⟨C, hC⟩ : ∃ C, buildE [(s, n)] = C := ⟨_, rfl⟩
  rw [hC] at HP
  have HB0 : Hid (Calls Tryd.prog 13 #[.slice (some ⟨w.heap.size, 0, none⟩) 1 1] w0 fun e w' => ∃ base vs b, e = .returned (.tuple #[.agg #[.int .i64 base, vs], .int .i64 C]) ∧ BuildSays w0 w' [(s, n)] base vs b) := HP
  have HW0 : Hid (Below w.heap.size w w0) := by show Below _ _ _; rw [hw0]; exact hb0 _
  have HT : Hid (Tabs w) := ht
  have HC : Hid (buildE [(s, n)] = C) := hC
  have HS : Hid (s.size ≤ 9223372036854775807) := hs'
  clear ht hs hs' hb0 HP hC
  have HA : Hid (∀ w1 base vs b, BuildSays w0 w1 [(s, n)] base vs b → ∀ o, Tabs (w1.alloc o) ∧ Below w.heap.size w (w1.alloc o)) := fun w1 base vs b h o => by
    have hb : Below w.heap.size w w1 := HW0.out.trans (h.bel.mono HW0.out.size)
    have hb2 := hb.alloc hb.size o
    exact ⟨HT.out.below hb2, hb2⟩
  go_enter Tryd.func10, Tryd.ntmps10
  by_cases hC0 : ¬ C = 0
  · have hCb : (C == 0) = false := beq_eq_false_iff_ne.2 hC0
    clear hC0
    go_wp2_with (first
      | (go_at_call 13; rw [← hw0]; refine HB0.out.mono ?_; rintro e w1 ⟨base, vs, b, rfl, hS⟩; obtain ⟨sd, sc, hvs⟩ := hS.row.shape; subst hvs; have HS : Hid _ := hS; clear hS)
      | (go_at_call 12; refine (alive_any _ (HA.out _ _ _ _ HS.out _).1).mono ?_; rintro e w2 ⟨rfl, hb2⟩))
    go_ret
    exact ⟨rfl, (HA.out _ _ _ _ HS.out _).2.trans (hb2.mono (HA.out _ _ _ _ HS.out _).2.size)⟩
  have hC0' : C = 0 := Classical.not_not.1 hC0
  subst hC0'
  clear hC0
  obtain ⟨xs, hxs, hx24, hmach⟩ := chain_mach HC.out
  have HX : Hid (rs s.data.toList = some xs) := hxs
  have HRN : Hid (∀ W, Calls Tryd.prog 16 #[.string s] W fun e w' => ∃ ra rc, e = .returned (.tuple #[.slice ra xs.length rc, .bool true]) ∧ Below W.heap.size W w') := fun W => by
    refine (RefRunes_any s W HS.out (room_of_runes hxs (by omega))).mono ?_
    rintro e w' ⟨v, hb, ⟨h1, _⟩ | ⟨ys, h1, h2, h3⟩⟩
    · rw [HX.out] at h1; cases h1
    · rw [HX.out] at h1; cases h1
      obtain ⟨ra, rc, rfl⟩ := h3.shape
      exact ⟨ra, rc, h2, hb⟩
  obtain ⟨nx, hnx⟩ : ∃ nx, xs.length = nx := ⟨_, rfl⟩
  have HM : Hid (∀ w1 base vs b, BuildSays w0 w1 [(s, n)] base vs b → base = n ∧ ∃ ad cap, vs = .slice ad (nx + 1) cap) := fun w1 base vs b h => by
    have := h.mach
    rw [hmach] at this
    simp only [Prod.mk.injEq] at this
    obtain ⟨rfl, rfl⟩ := this
    obtain ⟨ad, cap, e⟩ := h.row.shape
    exact ⟨rfl, ad, cap, by rw [e, chain_len, hnx]⟩
  rw [hnx] at HRN hx24
  clear hxs hmach hnx
  go_upto_region 4 with (go_at_call 13; rw [← hw0]; refine HB0.out.mono ?_; rintro e w1 ⟨base, vs, b, rfl, hS⟩; obtain ⟨rfl, sd, sc, rfl⟩ := HM.out _ _ _ _ hS; have HSS : Hid _ := hS; clear hS)
  obtain ⟨wm, hwm⟩ : ∃ wm, wm = w1.alloc (.cells #[.int .i64 base, .slice sd (nx + 1) sc] 27) := ⟨_, rfl⟩
  obtain ⟨mb, hmb⟩ : ∃ mb, mb = w1.heap.size := ⟨_, rfl⟩
  rw [← hwm, ← hmb]
  have hmm : wm.heap[mb]? = some (.cells #[.int .i64 base, .slice sd (nx + 1) sc] 27) := by rw [hwm, hmb]; exact alloc_newP _ _
  have HMM : Hid (wm.heap[mb]? = some (.cells #[.int .i64 base, .slice sd (nx + 1) sc] 27)) := hmm
  have HBM : Hid (Below w.heap.size w wm) := by show Below _ _ _; rw [hwm]; exact (HA.out _ _ _ _ HSS.out _).2
  clear hwm hmb hmm HSS hw0
  go_upto_region 5 with (go_at_call 16; refine (HRN.out _).mono ?_; rintro e w3 ⟨ra, rc, rfl, hb3⟩)
  have HB3 : Hid (Below wm.heap.size wm w3) := hb3
  have HB3w : Hid (Below w.heap.size w w3) := HBM.out.trans (hb3.mono HBM.out.size)
  have hnx2 : IntKind.i64.wrap ((nx : Int) + 1) = (nx : Int) + 1 := by rw [IntKind.wrap_i64]; omega
  clear hb3
  have HAL := alive_any w3 (HT.out.below HB3w.out)
  have HALH : Hid (Calls Tryd.prog 12 #[] w3 fun e w' => e = .returned (.bool true) ∧ (w'.cell? ⟨mb, 0, none⟩ = some (.int .i64 base) ∧ w'.cell? ⟨mb, 1, none⟩ = some (.slice sd (nx + 1) sc)) ∧ Hid (Below w.heap.size w w')) := by
    refine HAL.mono ?_
    rintro e w' ⟨h1, h2⟩
    have hmw := (Array.getElem?_eq_some_iff.1 HMM.out).1
    have hm3 := (HB3.out.block mb hmw).trans HMM.out
    have hm4 := (h2.block mb (Nat.lt_of_lt_of_le hmw HB3.out.size)).trans hm3
    exact ⟨h1, ⟨by simp [World.cell?, hm4], by simp [World.cell?, hm4]⟩, HB3w.out.trans (h2.mono HB3w.out.size)⟩
  clear HAL
  go_wp2_with (go_at_call 12; refine HALH.out.mono ?_; rintro e w4 ⟨rfl, ⟨hc40, hc41⟩, HB4⟩)
  go_ret
  exact ⟨rfl, HB4.out⟩
end Go.Proofs.YtfekpkjcociidaaDoor

/- Texts that were written apart, joined. -/
import Derived.Test.YthfngcpcccbnpaaDoorJ6
import Derived.Handy
import Derived.Carry
import Derived.Test.YthfngcpcccbnpaaDoorJ7
/- fst.Build, walked. -/
namespace Go.Proofs.YthfngcpcccbnpaaDoor
open Go.RowKit Nums Fm
set_option maxRecDepth 100000

theorem two_set {w : World} {b : Nat} {a0 a1 : Value} {T : TypeId} {q : Nat × Nat} (h : w.heap[b]? = some (.cells #[a0, a1] T q)) (x y : Value) : ((w.setCell ⟨b, 0, none⟩ x).setCell ⟨b, 1, none⟩ y).cell? ⟨b, 0, none⟩ = some x ∧ ((w.setCell ⟨b, 0, none⟩ x).setCell ⟨b, 1, none⟩ y).cell? ⟨b, 1, none⟩ = some y := by
  have h1 := set_at (o := 0) h x
  have h2 := set_at (o := 1) h1 y
  refine ⟨?_, ?_⟩
  · simp only [World.cell?, h2]; rfl
  · simp only [World.cell?, h2]; rfl
theorem build_results {tmps : Array Value} {w : World} {rb : Nat} {a b : Value} (h2 : tmps.getD 2 undef = .pointer (some ⟨rb, 0, none⟩)) (c0 : w.cell? ⟨rb, 0, none⟩ = some a) (c1 : w.cell? ⟨rb, 1, none⟩ = some b) : (results Tryd.f23 tmps).run Tryd.prog w = .ok (.tuple #[.agg #[a, b], tmps.getD 3 undef]) w := by
  have h2' : tmps[2]?.getD undef = .pointer (some ⟨rb, 0, none⟩) := by simpa using h2
  simp [results, Tryd.results23, go_sem, h2', c0, c1]
/-- What region 11 looks at. -/
def SB (g : Nat) (vs : Value) (w : World) : Prop := w.cell? ⟨g, 0, none⟩ = some vs
theorem SB.facts {g : Nat} {vs : Value} {w : World} (h : SB g vs w) : w.cell? ⟨g, 0, none⟩ = some vs := h
theorem BAt.start {E : Nat} {w : World} {g g1 g2 : Nat} (hb : w.heap[g]? = some (.cells #[.slice none 0 0, .map (some g1), .map (some g2)] 94 (0, 0))) (h1 : w.heap[g1]? = some (.map #[] 0)) (h2 : w.heap[g2]? = some (.map #[] 0)) (hne : g1 ≠ g2) (hlo : E ≤ g ∧ E ≤ g1 ∧ E ≤ g2) : BAt (fun _ => False) E w g g1 g2 (.slice none 0 0) [] [] [] [[]] :=
  ⟨hb, ⟨[], GOwn.nil _ _ _ _, rfl, fun i s hi => by simp at hi⟩, ⟨#[], 0, h1, rfl, by simp⟩, ⟨#[], 0, h2, rfl, by simp⟩, ⟨rfl, rfl, fun i x n hi => by simp at hi, by simp⟩, ⟨rfl, fun i x n hi => by simp at hi, by simp⟩, hne, hlo⟩
theorem BAt.strow {A : Nat → Prop} {E g g1 g2 : Nat} {w : World} {vs : Value} {b : List St} {m1 : List (SK × Nat)} {m2 : List (LK × Nat)} {D : List (List Arc)} (h : BAt A E w g g1 g2 vs b m1 m2 D) : StRow E w vs b := by
  obtain ⟨xss, h1, h2, h3⟩ := h.row
  refine ⟨xss, h1, h2, fun i s hi => ?_⟩
  obtain ⟨va, h4, h5, _⟩ := h3 i s hi
  exact ⟨va, h4, h5⟩

set_option maxHeartbeats 2000000 in
theorem Build_any (w : World) (v : Value) (l : List Pr) (h : PRow w v l) (hl : l.length ≤ 9223372036854775807) (hsm : Sm l) (ht : Tabs w) :
    Calls Tryd.prog 23 #[v] w fun e w' => ∃ base vs b, e = .returned (.tuple #[.agg #[.int .i64 base, vs], .int .i64 (buildE l)]) ∧ BuildSays w w' l base vs b := by
  obtain ⟨ad, cap, rfl⟩ := h.form
  have HR : Hid (PRow w (.slice ad l.length cap) l) := h
  obtain ⟨n, hn⟩ : ∃ n, l.length = n := ⟨_, rfl⟩
  have HN : Hid (l.length = n) := hn
  have HS : Hid (Sm l) := hsm
  have HT : Hid (Tabs w) := ht
  have HA : Hid (∀ o, Below w.heap.size w (w.alloc o)) := fun o => (Below.refl _ w).alloc (Nat.le_refl _) o
  rw [hn] at HR hl
  clear h hsm ht
  rw [hn]
  obtain ⟨C, hC⟩ : ∃ C, buildE l = C := ⟨_, rfl⟩
  have HC : Hid (buildE l = C) := hC
  rw [hC]
  have HZ : Hid (C ≠ 0 ∨ n = 0 → ∀ w', Below w.heap.size w w' → BuildSays w w' l 0 (.slice none 0 0) []) := fun h w' hb => by
    refine ⟨hb, StRow.nil _ _, ?_⟩
    rw [machOf, if_neg]
    rintro ⟨h1, h2⟩
    rcases h with h | h
    · exact h (HC.out.symm.trans h1)
    · exact h2 (List.eq_nil_of_length_eq_zero (HN.out.trans h))
  by_cases hbig : 4096 < n
  · have hbz : (4096 : Int) < (n : Int) := by omega
    have hC70 : C = 70 := by rw [← hC, buildE, if_pos (by omega)]
    subst hC70
    clear hC hn
    go_enter Tryd.func23, Tryd.ntmps23
    go_wp2
    go_returns
    exact ⟨_, _, _, rfl, HZ.out (.inl (by decide)) _ (HA.out _)⟩
  have hbz : ¬ (4096 : Int) < (n : Int) := by omega
  have hCf : faultF none l = C := by rw [← hC, buildE, if_neg (by omega)]
  obtain ⟨rb, hrb⟩ : ∃ rb, rb = w.heap.size := ⟨_, rfl⟩
  obtain ⟨w0, hw0⟩ : ∃ w0, w0 = w.alloc (.cells #[.int .i64 0, .slice none 0 0] 58) := ⟨_, rfl⟩
  have hb0 : Below w.heap.size w w0 := by rw [hw0]; exact HA.out _
  have hr0 : w0.heap[rb]? = some (.cells #[.int .i64 0, .slice none 0 0] 58) := by rw [hw0, hrb]; exact alloc_newP _ _
  have HB0 : Hid (Below w.heap.size w w0) := hb0
  have HR0 : Hid (w0.heap[rb]? = some (.cells #[.int .i64 0, .slice none 0 0] 58) ∧ rb < w0.heap.size ∧ rb = w.heap.size) := ⟨hr0, (Array.getElem?_eq_some_iff.1 hr0).1, hrb⟩
  have HF : Hid (Calls Tryd.prog 42 #[.slice ad n cap] w0 fun e w' => e = .returned (.int .i64 C) ∧ Below w0.heap.size w0 w') := by
    have := firstFault_any w0 _ l (HR.out.below hb0) (by omega) HS.out (HT.out.below hb0)
    rw [hCf] at this
    exact this
  clear hb0 hr0
  by_cases hC0 : ¬ C = 0
  · have hCb : (C == 0) = false := beq_eq_false_iff_ne.2 hC0
    have HCN : Hid (C ≠ 0) := hC0
    clear hC hn hCf hC0
    go_enter Tryd.func23, Tryd.ntmps23
    go_upto_region 1 with fail
    rw [← hw0, ← hrb]
    clear hw0 hrb
    go_upto_region 4 with (go_at_call 42; refine HF.out.mono ?_; rintro e w1 ⟨rfl, hb1⟩)
    have hr1 := (hb1.block rb HR0.out.2.1).trans HR0.out.1
    have hc0 : w1.cell? ⟨rb, 0, none⟩ = some (.int .i64 0) := by simp [World.cell?, hr1]
    have hc1 : w1.cell? ⟨rb, 1, none⟩ = some (.slice none 0 0) := by simp [World.cell?, hr1]
    have hz : ∀ o, w1.frozen? ⟨rb, o, none⟩ = false := fun o => by simp [World.frozen?, hr1]
    have HB1 : Hid (∀ x y, Below w.heap.size w ((w1.setCell ⟨rb, 0, none⟩ x).setCell ⟨rb, 1, none⟩ y)) := fun x y => ((HB0.out.trans (hb1.mono HB0.out.size)).setCell (by show w.heap.size ≤ rb; rw [HR0.out.2.2]; exact Nat.le_refl _) _).setCell (by show w.heap.size ≤ rb; rw [HR0.out.2.2]; exact Nat.le_refl _) _
    have HP : Hid _ := two_set hr1 (.int .i64 0) (.slice none 0 0)
    clear hb1 hr1
    go_wp2
    try simp only [Exit.inBlock, Exit.then]
    refine bodyPost_ret (build_results rfl HP.out.1 HP.out.2) rfl ?_
    exact ⟨_, _, _, rfl, HZ.out (.inl HCN.out) _ (HB1.out _ _)⟩
  have hC0' : C = 0 := by omega
  subst hC0'
  clear hC0 hC hCf
  by_cases hn0 : n = 0
  · subst hn0
    clear hn
    go_enter Tryd.func23, Tryd.ntmps23
    go_upto_region 1 with fail
    rw [← hw0, ← hrb]
    clear hw0 hrb
    go_upto_region 4 with (go_at_call 42; refine HF.out.mono ?_; rintro e w1 ⟨rfl, hb1⟩)
    have hr1 := (hb1.block rb HR0.out.2.1).trans HR0.out.1
    have hc0 : w1.cell? ⟨rb, 0, none⟩ = some (.int .i64 0) := by simp [World.cell?, hr1]
    have hc1 : w1.cell? ⟨rb, 1, none⟩ = some (.slice none 0 0) := by simp [World.cell?, hr1]
    have hz : ∀ o, w1.frozen? ⟨rb, o, none⟩ = false := fun o => by simp [World.frozen?, hr1]
    have HB1 : Hid (∀ x y, Below w.heap.size w ((w1.setCell ⟨rb, 0, none⟩ x).setCell ⟨rb, 1, none⟩ y)) := fun x y => ((HB0.out.trans (hb1.mono HB0.out.size)).setCell (by show w.heap.size ≤ rb; rw [HR0.out.2.2]; exact Nat.le_refl _) _).setCell (by show w.heap.size ≤ rb; rw [HR0.out.2.2]; exact Nat.le_refl _) _
    have HP : Hid _ := two_set hr1 (.int .i64 0) (.slice none 0 0)
    clear hb1 hr1
    go_wp2
    try simp only [Exit.inBlock, Exit.then]
    refine bodyPost_ret (build_results rfl HP.out.1 HP.out.2) rfl ?_
    exact ⟨_, _, _, rfl, HZ.out (.inr (by trivial)) _ (HB1.out _ _)⟩
  have hn0z : ¬ (n : Int) = 0 := by omega
  have hn0b : ((n : Int) == 0) = false := beq_eq_false_iff_ne.2 hn0z
  have HD : Hid (DictOk l) := dict_ok HC.out
  have hl0 : l ≠ [] := fun e => by rw [e] at hn; simp at hn; omega
  have hents0 : ents l ≠ [] := fun e => by have := ents_len l; rw [e, hn] at this; simp at this; omega
  have HOK : Hid (Ok 25 (cut 0 (ents l))) := by show Ok _ _; rw [cut_zero]; exact ok_of_rise 25 (ents l) hents0 HD.out.rise (fun e he => by have := HD.out.en.ln e he; omega)
  have HBK : Hid (bulk (cut 0 (ents l)) ≤ 102400) := by
    show _ ≤ _
    rw [cut_zero]
    have h1 := bulk_le HD.out.en.ln
    rw [ents_len, hn] at h1
    omega
  have HM : Hid (machOf l = (least (ents l), (stF 25 [] (ents l)).1)) := by show _ = _; rw [machOf, if_pos ⟨HC.out, hl0⟩]
  clear HZ hn hents0 hl0
  go_enter Tryd.func23, Tryd.ntmps23
  go_upto_region 1 with fail
  rw [← hw0, ← hrb]
  clear hw0 hrb
  go_upto_region 4 with (go_at_call 42; refine HF.out.mono ?_; rintro e w1 ⟨rfl, hb1⟩)
  have hb01 : Below w.heap.size w w1 := HB0.out.trans (hb1.mono HB0.out.size)
  have HENT := entries_any w1 _ l (HR.out.below hb01) (by rw [HN.out]; omega) HD.out.wd (HT.out.below hb01)
  have HENTH : Hid (Calls Tryd.prog 43 #[.slice ad n cap] w1 fun e w' => ∃ v', e = .returned v' ∧ ERow w'.heap.size w' v' (ents l) ∧ Below w1.heap.size w1 w') := HENT
  have HB1 : Hid (Below w0.heap.size w0 w1) := hb1
  clear hb1 hb01 HENT
  go_upto_region 9 with (go_at_call 43; refine HENTH.out.mono ?_; rintro e w2 ⟨vE, rfl, hE, hb2⟩)
  have HE2 : Hid (ERow w2.heap.size w2 vE (ents l)) := hE
  have HB2 : Hid (Below w0.heap.size w0 w2) := HB1.out.trans (hb2.mono HB1.out.size)
  clear hE hb2
  have hm1 : (Instr.makeMap 91 none).run Tryd.prog w2 = .ok (.map (some w2.heap.size)) (w2.alloc (.map #[] 0)) := run_makeMap _ _
  have hm2 : (Instr.makeMap 92 none).run Tryd.prog (w2.alloc (.map #[] 0)) = .ok (.map (some (w2.heap.size + 1))) ((w2.alloc (.map #[] 0)).alloc (.map #[] 0)) := by
    have := run_makeMap (P := Tryd.prog) 92 (w2.alloc (.map #[] 0))
    rw [show (w2.alloc (.map #[] 0)).heap.size = w2.heap.size + 1 by simp] at this
    exact this
  go_upto_region 10 with fail
  clear hm1 hm2
  obtain ⟨W, hW⟩ : ∃ W, W = ((w2.alloc (.map #[] 0)).alloc (.map #[] 0)).alloc (.cells #[.slice none 0 0, .map (some w2.heap.size), .map (some (w2.heap.size + 1))] 94) := ⟨_, rfl⟩
  obtain ⟨E, hE⟩ : ∃ E, E = w2.heap.size := ⟨_, rfl⟩
  rw [← hW, ← hE]
  have hgm : W.heap[E + 1 + 1]? = some (.cells #[.slice none 0 0, .map (some E), .map (some (E + 1))] 94) := by
    have : ((w2.alloc (.map #[] 0)).alloc (.map #[] 0)).heap.size = E + 1 + 1 := by rw [hE]; simp
    rw [hW, ← this, hE]; exact alloc_newP _ _
  have hg1 : W.heap[E]? = some (.map #[] 0) := by
    rw [hW, (MapKept.heap_alloc _ _).2 E (by rw [hE]; simp; omega), (MapKept.heap_alloc _ _).2 E (by rw [hE]; simp), hE]
    exact alloc_newP _ _
  have hg2 : W.heap[E + 1]? = some (.map #[] 0) := by
    have : (w2.alloc (.map #[] 0)).heap.size = E + 1 := by rw [hE]; simp
    rw [hW, (MapKept.heap_alloc _ _).2 (E + 1) (by rw [hE]; simp), ← this]
    exact alloc_newP _ _
  have hbW : Below w2.heap.size w2 W := by rw [hW]; exact (((Below.refl _ w2).alloc (Nat.le_refl _) _).alloc (by simp) _).alloc (by simp; omega) _
  obtain ⟨g, hg⟩ : ∃ g, g = E + 1 + 1 := ⟨_, rfl⟩
  rw [← hg] at hgm ⊢
  have hBA := BAt.start (E := E) hgm hg1 hg2 (by omega) ⟨by omega, by omega, by omega⟩
  have hEr : ERow E W vE (ents l) := by rw [hE]; exact HE2.out.below hbW
  have HST := state_any 25 (fun _ => False) E g E (E + 1) (.slice none 0 0) [] [] [] [[]] W vE (ents l) 0 hBA hEr HOK.out HD.out.en (by rw [ents_len]; exact HD.out.len) (fun _ _ => Nat.zero_le _) (by omega) (by have := HBK.out; simp only [List.length_nil]; omega) (by have := HBK.out; simp only [List.length_nil]; omega) (fun _ h => h.elim)
  rw [cut_zero] at HST
  have HSTH : Hid (Calls Tryd.prog 44 #[.pointer (some ⟨g, 0, none⟩), vE, .int .i64 0] W fun e w' => ∃ n : Nat, e = .returned (.int .i64 n) ∧ StSays (fun _ => False) E g E (E + 1) (.slice none 0 0) [] [] 25 (ents l) W w' n) := HST
  have hrW : W.heap[rb]? = some (.cells #[.int .i64 0, .slice none 0 0] 58) := (hbW.block rb (Nat.lt_of_lt_of_le HR0.out.2.1 HB2.out.size)).trans ((HB2.out.block rb HR0.out.2.1).trans HR0.out.1)
  have HGE : Hid (g = E + 1 + 1 ∧ E = w2.heap.size ∧ W.heap.size = E + 1 + 1 + 1 ∧ rb < E) := ⟨hg, hE, by rw [hW, hE]; simp, by rw [hE]; exact Nat.lt_of_lt_of_le HR0.out.2.1 HB2.out.size⟩
  have HRW : Hid (W.heap[rb]? = some (.cells #[.int .i64 0, .slice none 0 0] 58)) := hrW
  have HBW : Hid (Below w2.heap.size w2 W) := hbW
  have HERW : Hid (ERow E W vE (ents l)) := hEr
  have HFP : Hid (∀ k, fpB g E (E + 1) (.slice none 0 0) k → E ≤ k) := hBA.fp_lo
  clear hW hE hg HST hBA hEr hgm hg1 hg2 hbW hrW
  go_upto_region 11 with (go_at_call 44; refine HSTH.out.mono ?_; rintro e w3 ⟨nr, rfl, hS3⟩)
  obtain ⟨⟨A', vs', m1', m2', D', hB3, _, hU3, _, hA3, _⟩, _⟩ := hS3
  obtain ⟨hgE, hEw, hWs, hrE⟩ := HGE.out
  have hE3 : Below E W w3 := hU3.below (by omega) HFP.out
  have hr3 : w3.heap[rb]? = some (.cells #[.int .i64 0, .slice none 0 0] 58) := (hE3.block rb hrE).trans HRW.out
  obtain ⟨sd, sc, hvs, _⟩ : ∃ sd sc, vs' = .slice sd ((stF 25 [] (ents l)).1).length sc ∧ True := by
    obtain ⟨xss, h1, h2, _⟩ := hB3.row
    obtain ⟨sd, sc, h3, _⟩ := h1.shape
    exact ⟨sd, sc, by rw [h3, h2], trivial⟩
  obtain ⟨nb, hnb⟩ : ∃ nb, ((stF 25 [] (ents l)).1).length = nb := ⟨_, rfl⟩
  rw [hnb] at hvs
  subst hvs
  have hS0 : SB g (.slice sd nb sc) w3.drew := hB3.cells.1
  have HLS := least_any E w3.drew vE (ents l) (HERW.out.below hE3.drew) (by rw [ents_len, HN.out]; omega) (by have h1 := hU3.size; have h2 : w3.drew.heap.size = w3.heap.size := rfl; omega) (by rw [ents_len, HN.out]; omega)
  clear hgE hEw hWs hrE
  refine region_at (S := SB g (.slice sd nb sc)) 7 rfl mixedP hS0 (fun _ => ?_)
  refine take_at (i := 0) 28 rfl rfl (by kernel_rfl) (by kernel_rfl) (by kernel_rfl) (fun _ _ _ h => h) (by rfl) (fun w hSw => by (have hSw2 := SB.facts hSw; clear hSw; go_simp; first | done | exact rfl)) (by assumption) ?_
  simp only [List.setIfInBounds_toArray, List.set_cons_zero, List.set_cons_succ]
  refine take_at (i := 2) 30 rfl rfl (by kernel_rfl) (by kernel_rfl) (by kernel_rfl) (fun _ _ _ h => h) (by rfl) (fun w hSw => by (have hSw2 := SB.facts hSw; clear hSw; go_simp; first | done | exact rfl)) (by assumption) ?_
  simp only [List.setIfInBounds_toArray, List.set_cons_zero, List.set_cons_succ]
  refine take_at (i := 3) 31 rfl rfl (by kernel_rfl) (by kernel_rfl) (by kernel_rfl) (fun _ _ _ h => h) (by rfl) (fun w hSw => by (have hSw2 := SB.facts hSw; clear hSw; go_simp; first | done | exact rfl)) (by assumption) ?_
  simp only [List.setIfInBounds_toArray, List.set_cons_zero, List.set_cons_succ]
  refine one_call (i := 1) (w0 := w3.drew) 29 45 #[vE] (by kernel_rfl) rfl rfl (by rfl) (by kernel_rfl) ?_
  refine HLS.mono ?_
  rintro e w4 ⟨rfl, hb4⟩
  have hgl : g < w3.heap.size := hB3.lt.1
  have hrl : rb < w3.heap.size := (Array.getElem?_eq_some_iff.1 hr3).1
  have hS4 : SB g (.slice sd nb sc) w4 := (hb4.cell (p := ⟨g, 0, none⟩) hgl).trans hS0
  refine ⟨_, rfl, hS4, fun _ => ?_⟩
  simp only [List.setIfInBounds_toArray, List.set_cons_zero, List.set_cons_succ]
  refine take_at (i := 4) 32 rfl rfl (by kernel_rfl) (by kernel_rfl) (by kernel_rfl) (fun _ _ _ h => h) (by rfl) (fun w hSw => by (have hSw2 := SB.facts hSw; clear hSw; go_simp; first | done | exact rfl)) (by assumption) ?_
  simp only [List.setIfInBounds_toArray, List.set_cons_zero, List.set_cons_succ]
  obtain ⟨hgE, hEw, hWs, hrE⟩ := HGE.out
  have hr4 : w4.heap[rb]? = some (.cells #[.int .i64 0, .slice none 0 0] 58) := (hb4.block rb hrl).trans hr3
  have hc0 : w4.cell? ⟨rb, 0, none⟩ = some (.int .i64 0) := by simp [World.cell?, hr4]
  have hc1 : w4.cell? ⟨rb, 1, none⟩ = some (.slice none 0 0) := by simp [World.cell?, hr4]
  have hz : ∀ o, w4.frozen? ⟨rb, o, none⟩ = false := fun o => by simp [World.frozen?, hr4]
  have hrg : g ≠ rb := by omega
  obtain ⟨w5, hw5⟩ : ∃ w5, w5 = (w4.setCell ⟨rb, 0, none⟩ (.int .i64 (least (ents l)))).setCell ⟨rb, 1, none⟩ (.slice sd nb sc) := ⟨_, rfl⟩
  have hp := two_set hr4 (.int .i64 (least (ents l))) (.slice sd nb sc)
  rw [← hw5] at hp
  have he5 : ∀ j, j ≠ rb → w5.heap[j]? = w4.heap[j]? := fun j hj => by rw [hw5, set_other _ _ _ _ hj, set_other _ _ _ _ hj]
  have hS5 : SB g (.slice sd nb sc) w5 := (World.cell?_of_block (a := ⟨g, 0, none⟩) (he5 g hrg)).trans hS4
  have HFIN : Hid (BuildSays w w5 l (least (ents l)) (.slice sd nb sc) (stF 25 [] (ents l)).1) := by
    have hB4 := hB3.below (show Below w3.heap.size w3 w4 from ⟨hb4.os, hb4.tape, hb4.output, hb4.size, hb4.block⟩)
    have hB5 := hB4.keepJ (w' := w5) (J := fun j => j = rb) (fun j _ hj => he5 j hj) (fun j hj => ⟨fun f => by have := hB4.fp_lo j f; omega, fun f => by rcases hA3 j f with h | h; exact h.elim; omega⟩)
    have hlow : w.heap.size ≤ E := by have h1 := HR0.out.2.2; omega
    have h04 : Below w.heap.size w w4 := by
      have h1 : Below w.heap.size w w2 := HB0.out.trans (HB2.out.mono HB0.out.size)
      have h2 : Below w.heap.size w W := h1.trans (HBW.out.mono h1.size)
      have h3 : Below w.heap.size w w3 := h2.trans (hE3.mono hlow)
      exact h3.trans ((show Below w3.heap.size w3 w4 from ⟨hb4.os, hb4.tape, hb4.output, hb4.size, hb4.block⟩).mono h3.size)
    refine ⟨?_, hB5.strow.mono hlow, HM.out⟩
    rw [hw5]
    exact (h04.setCell (by show w.heap.size ≤ rb; rw [HR0.out.2.2]; exact Nat.le_refl _) _).setCell (by show w.heap.size ≤ rb; rw [HR0.out.2.2]; exact Nat.le_refl _) _
  clear hB3 hU3 hA3 hE3 hr3 hr4 hS0 hS4 HLS hb4 hgl hrl he5 hgE hEw hWs hrE
  refine one_skip (i := 5) (w' := w5) (by kernel_rfl) rfl rfl (by rfl) (by rw [hw5]; go_simp; first | done | exact rfl) hS5 (fun _ => ?_)
  refine one_value (i := 6) (v := .int .i64 0) (w' := w5) 3 (by kernel_rfl) rfl rfl (by rfl) (by kernel_rfl) hS5 (fun _ => ?_)
  refine wpAnyH_done (by kernel_rfl) ?_ _
  clear hw5 hc0 hc1 hz
  go_wp2
  try simp only [Exit.inBlock, Exit.then]
  refine bodyPost_ret (build_results rfl hp.1 hp.2) rfl ?_
  exact ⟨_, _, _, rfl, HFIN.out⟩
end Go.Proofs.YthfngcpcccbnpaaDoor

/- Machines in memory, as they are read. -/
namespace Go.Proofs.YthfngcpcccbnpaaDoor
open Go.RowKit Nums Fm Pk
set_option maxRecDepth 100000

/-- A row of structs that is read, in a block below E. -/
structure GRow (E k : Nat) (w : World) (v : Value) (xss : List (List Value)) : Prop where
  ex : ∃ ad cap, v = .slice ad xss.length cap ∧ (0 < xss.length → ∃ g off, ad = some ⟨g, off, none⟩ ∧ g < E ∧ ∀ (i j : Nat) (x : List Value) (u : Value), xss[i]? = some x → x[j]? = some u → w.cell? ⟨g, off + i * k + j, none⟩ = some u)
theorem GRow.below {E k : Nat} {w w' : World} {v : Value} {xss : List (List Value)} (h : GRow E k w v xss) (hb : Below E w w') : GRow E k w' v xss := by
  obtain ⟨ad, cap, rfl, hc⟩ := h.ex
  refine ⟨ad, cap, rfl, fun h0 => ?_⟩
  obtain ⟨g, off, rfl, hg, hx⟩ := hc h0
  exact ⟨g, off, rfl, hg, fun i j x u hi hj => (hb.cell (p := ⟨g, off + i * k + j, none⟩) hg).trans (hx i j x u hi hj)⟩
theorem GRow.mono {E E' k : Nat} {w : World} {v : Value} {xss : List (List Value)} (h : GRow E k w v xss) (hE : E ≤ E') : GRow E' k w v xss := by
  obtain ⟨ad, cap, rfl, hc⟩ := h.ex
  refine ⟨ad, cap, rfl, fun h0 => ?_⟩
  obtain ⟨g, off, rfl, hg, hx⟩ := hc h0
  exact ⟨g, off, rfl, Nat.lt_of_lt_of_le hg hE, hx⟩
theorem GRow.shape {E k : Nat} {w : World} {v : Value} {xss : List (List Value)} (h : GRow E k w v xss) : ∃ ad cap, v = .slice ad xss.length cap := by
  obtain ⟨ad, cap, rfl, _⟩ := h.ex
  exact ⟨ad, cap, rfl⟩
theorem GOwn.reads {T : TypeId} {k B : Nat} {w : World} {v : Value} {xss : List (List Value)} (h : GOwn T k B w v xss) : GRow w.heap.size k w v xss := by
  obtain ⟨ad, cap, hv, _⟩ := h.shape
  refine ⟨ad, cap, hv, fun h0 => ?_⟩
  obtain ⟨g, c2, hv2, hg, _, _, hc⟩ := h.cell h0
  rw [hv] at hv2
  simp only [Value.slice.injEq] at hv2
  exact ⟨g, 0, hv2.1, hg, fun i j x u hi hj => by rw [Nat.zero_add]; exact hc i j x u hi hj⟩
def cellsRA (a : RArc) : List Value := [.int .i32 a.label, .int .i64 a.out, .int .i64 a.to]
def OkRA (a : RArc) : Prop := Fits32 a.label ∧ Fits64 a.out ∧ Fits64 a.to
/-- Arcs that are read. -/
structure ArcsAt (E : Nat) (w : World) (va : Value) (l : List RArc) : Prop where
  row : GRow E 3 w va (l.map cellsRA)
  ok : ∀ a ∈ l, OkRA a
  len : l.length ≤ 9223372036854775807
theorem ArcsAt.below {E : Nat} {w w' : World} {va : Value} {l : List RArc} (h : ArcsAt E w va l) (hb : Below E w w') : ArcsAt E w' va l := ⟨h.row.below hb, h.ok, h.len⟩
theorem ArcsAt.shape {E : Nat} {w : World} {va : Value} {l : List RArc} (h : ArcsAt E w va l) : ∃ ad cap, va = .slice ad l.length cap := by
  obtain ⟨ad, cap, h1⟩ := h.row.shape
  exact ⟨ad, cap, by rw [h1, List.length_map]⟩
/-- One arc's cells. -/
theorem ArcsAt.at {E : Nat} {w : World} {ad : Option Addr} {n cap : Nat} {l : List RArc} (h : ArcsAt E w (.slice ad n cap) l) {k : Nat} {a : RArc} (ha : l[k]? = some a) : ∃ g off, ad = some ⟨g, off, none⟩ ∧ g < E ∧ w.cell? ⟨g, off + k * 3, none⟩ = some (.int .i32 a.label) ∧ w.cell? ⟨g, off + k * 3 + 1, none⟩ = some (.int .i64 a.out) ∧ w.cell? ⟨g, off + k * 3 + 2, none⟩ = some (.int .i64 a.to) := by
  obtain ⟨ad', cap', hv, hc⟩ := h.row.ex
  simp only [Value.slice.injEq] at hv
  have hk := (List.getElem?_eq_some_iff.1 ha).1
  obtain ⟨g, off, rfl, hg, hx⟩ := hc (by rw [List.length_map]; omega)
  have e : (l.map cellsRA)[k]? = some (cellsRA a) := by rw [List.getElem?_map, ha]; rfl
  exact ⟨g, off, hv.1, hg, hx k 0 _ _ e rfl, hx k 1 _ _ e rfl, hx k 2 _ _ e rfl⟩
/-- States that are read. -/
structure StsAt (E : Nat) (w : World) (vs : Value) (m : List RSt) : Prop where
  ex : ∃ xss, GRow E 3 w vs xss ∧ xss.length = m.length ∧ ∀ (i : Nat) (s : RSt), m[i]? = some s → ∃ va, xss[i]? = some [.bool s.final, .int .i64 s.out, va] ∧ ArcsAt E w va s.arcs
  ok : ∀ s ∈ m, Fits64 s.out
  len : m.length ≤ 9223372036854775807
theorem StsAt.below {E : Nat} {w w' : World} {vs : Value} {m : List RSt} (h : StsAt E w vs m) (hb : Below E w w') : StsAt E w' vs m := by
  obtain ⟨xss, h1, h2, h3⟩ := h.ex
  refine ⟨⟨xss, h1.below hb, h2, fun i s hi => ?_⟩, h.ok, h.len⟩
  obtain ⟨va, e1, e2⟩ := h3 i s hi
  exact ⟨va, e1, e2.below hb⟩
theorem StsAt.shape {E : Nat} {w : World} {vs : Value} {m : List RSt} (h : StsAt E w vs m) : ∃ ad cap, vs = .slice ad m.length cap := by
  obtain ⟨xss, h1, h2, _⟩ := h.ex
  obtain ⟨ad, cap, e⟩ := h1.shape
  exact ⟨ad, cap, by rw [e, h2]⟩
/-- One state's cells. -/
theorem StsAt.at {E : Nat} {w : World} {ad : Option Addr} {n cap : Nat} {m : List RSt} (h : StsAt E w (.slice ad n cap) m) {k : Nat} {s : RSt} (hs : m[k]? = some s) : ∃ g off va, ad = some ⟨g, off, none⟩ ∧ g < E ∧ w.cell? ⟨g, off + k * 3, none⟩ = some (.bool s.final) ∧ w.cell? ⟨g, off + k * 3 + 1, none⟩ = some (.int .i64 s.out) ∧ w.cell? ⟨g, off + k * 3 + 2, none⟩ = some va ∧ ArcsAt E w va s.arcs := by
  obtain ⟨xss, h1, h2, h3⟩ := h.ex
  obtain ⟨ad', cap', hv, hc⟩ := h1.ex
  simp only [Value.slice.injEq] at hv
  have hk := (List.getElem?_eq_some_iff.1 hs).1
  obtain ⟨g, off, rfl, hg, hx⟩ := hc (by omega)
  obtain ⟨va, e1, e2⟩ := h3 k s hs
  exact ⟨g, off, va, hv.1, hg, hx k 0 _ _ e1 rfl, hx k 1 _ _ e1 rfl, hx k 2 _ _ e1 rfl, e2⟩
end Go.Proofs.YthfngcpcccbnpaaDoor

/- How states are compared. No program is named here. -/
namespace Go.Proofs.YthfngcpcccbnpaaDoor.Pk

def cmpI (a b : Int) : Int := if a < b then -1 else if b < a then 1 else 0
def orI : List Int → Int
  | [] => 0
  | c :: r => if c ≠ 0 then c else orI r
def cmpA (x y : RArc) : Int := orI [cmpI x.label y.label, cmpI x.out y.out, cmpI x.to y.to]
def cmpL : List RArc → List RArc → Int
  | [], [] => 0
  | [], _ :: _ => -1
  | _ :: _, [] => 1
  | x :: xs, y :: ys => if cmpA x y ≠ 0 then cmpA x y else cmpL xs ys
def headS (s : RSt) : Int := 2 * s.arcs.length + (if s.final then 1 else 0)
def cmpH (s t : RSt) : Int := orI [cmpI (headS s) (headS t), cmpI s.out t.out]
def cmpS (s t : RSt) : Int := if cmpH s t ≠ 0 then cmpH s t else cmpL s.arcs t.arcs
/-- A way of comparing that is an order. -/
structure Ord3 {α : Type} (c : α → α → Int) : Prop where
  eq : ∀ x y, c x y = 0 ↔ x = y
  anti : ∀ x y, c x y < 0 ↔ 0 < c y x
  tr : ∀ x y z, c x y < 0 → c y z < 0 → c x z < 0
theorem cmpI_ord : Ord3 cmpI := by
  refine ⟨fun x y => ?_, fun x y => ?_, fun x y z => ?_⟩ <;> unfold cmpI
  · repeat' split
    all_goals omega
  · repeat' split
    all_goals omega
  · repeat' split
    all_goals omega
/-- By the one, then by the other. -/
theorem Ord3.then {α β γ : Type} {c : α → α → Int} {d : β → β → Int} (hc : Ord3 c) (hd : Ord3 d) (p : γ → α) (q : γ → β) (inj : ∀ x y, p x = p y → q x = q y → x = y) : Ord3 fun x y : γ => if c (p x) (p y) ≠ 0 then c (p x) (p y) else d (q x) (q y) := by
  have c0 : ∀ x y, c x y = 0 ↔ c y x = 0 := fun x y => by rw [hc.eq, hc.eq]; exact eq_comm
  refine ⟨fun x y => ?_, fun x y => ?_, fun x y z => ?_⟩
  · split
    · rename_i h
      exact ⟨fun e => absurd e h, fun e => absurd ((hc.eq _ _).2 (congrArg p e)) h⟩
    · rename_i h
      have h' : c (p x) (p y) = 0 := Decidable.byContradiction h
      exact ⟨fun e => inj x y ((hc.eq _ _).1 h') ((hd.eq _ _).1 e), fun e => (hd.eq _ _).2 (congrArg q e)⟩
  · by_cases h : c (p x) (p y) = 0
    · rw [if_neg (fun hn => hn h), if_neg (fun hn => hn ((c0 _ _).1 h))]
      exact hd.anti _ _
    · rw [if_pos h, if_pos (fun hn => h ((c0 _ _).2 hn))]
      exact hc.anti _ _
  · by_cases h1 : c (p x) (p y) = 0
    · have e1 := (hc.eq _ _).1 h1
      rw [if_neg (fun hn => hn h1)]
      by_cases h2 : c (p y) (p z) = 0
      · have e2 := (hc.eq _ _).1 h2
        rw [if_neg (fun hn => hn h2), e1, if_neg (fun hn => hn h2)]
        exact hd.tr _ _ _
      · rw [if_pos h2, e1, if_pos h2]
        exact fun _ h => h
    · rw [if_pos h1]
      by_cases h2 : c (p y) (p z) = 0
      · have e2 := (hc.eq _ _).1 h2
        rw [if_neg (fun hn => hn h2), ← e2, if_pos h1]
        exact fun h _ => h
      · rw [if_pos h2]
        intro g1 g2
        have := hc.tr _ _ _ g1 g2
        rw [if_pos (by omega)]
        exact this
theorem cmpA_ord : Ord3 cmpA := by
  have h := Ord3.then (γ := RArc) cmpI_ord (Ord3.then (γ := Int × Int) cmpI_ord cmpI_ord (·.1) (·.2) (fun x y h1 h2 => Prod.ext h1 h2)) (·.label) (fun a => (a.out, a.to)) (fun x y h1 h2 => by
    cases x; cases y
    simp only [Prod.mk.injEq] at h1 h2
    rw [h1, h2.1, h2.2])
  have e : cmpA = fun x y : RArc => if cmpI x.label y.label ≠ 0 then cmpI x.label y.label else if cmpI x.out y.out ≠ 0 then cmpI x.out y.out else cmpI x.to y.to := by
    funext x y
    unfold cmpA orI orI orI orI
    by_cases h1 : cmpI x.label y.label = 0
    · by_cases h2 : cmpI x.out y.out = 0
      · by_cases h3 : cmpI x.to y.to = 0 <;> simp [h1, h2, h3]
      · simp [h1, h2]
    · simp [h1]
  rw [e]
  exact h
theorem cmpL_eq : ∀ x y, cmpL x y = 0 ↔ x = y
  | [], [] => by simp [cmpL]
  | [], _ :: _ => by simp [cmpL]
  | _ :: _, [] => by simp [cmpL]
  | x :: xs, y :: ys => by
    rw [cmpL]
    by_cases h : cmpA x y = 0
    · rw [if_neg (fun hn => hn h), cmpL_eq xs ys, (cmpA_ord.eq _ _).1 h]
      simp
    · rw [if_pos h]
      exact ⟨fun e => absurd e h, fun e => absurd ((cmpA_ord.eq _ _).2 (List.cons.inj e).1) h⟩
theorem cmpL_anti : ∀ x y, cmpL x y < 0 ↔ 0 < cmpL y x
  | [], [] => by simp [cmpL]
  | [], _ :: _ => by simp [cmpL]
  | _ :: _, [] => by simp [cmpL]
  | x :: xs, y :: ys => by
    rw [cmpL, cmpL]
    have c0 : cmpA x y = 0 ↔ cmpA y x = 0 := by rw [cmpA_ord.eq, cmpA_ord.eq]; exact eq_comm
    by_cases h : cmpA x y = 0
    · rw [if_neg (fun hn => hn h), if_neg (fun hn => hn (c0.1 h))]
      exact cmpL_anti xs ys
    · rw [if_pos h, if_pos (fun hn => h (c0.2 hn))]
      exact cmpA_ord.anti _ _
theorem cmpL_tr : ∀ x y z, cmpL x y < 0 → cmpL y z < 0 → cmpL x z < 0
  | [], [], _, h, _ => by simp [cmpL] at h
  | [], _ :: _, [], _, h => by simp [cmpL] at h
  | [], _ :: _, _ :: _, _, _ => by simp [cmpL]
  | _ :: _, [], _, h, _ => by simp [cmpL] at h
  | _ :: _, _ :: _, [], _, h => by simp [cmpL] at h
  | x :: xs, y :: ys, z :: zs, h1, h2 => by
    rw [cmpL] at h1 h2 ⊢
    by_cases g1 : cmpA x y = 0
    · have e1 := (cmpA_ord.eq _ _).1 g1
      rw [if_neg (fun hn => hn g1)] at h1
      subst e1
      by_cases g2 : cmpA x z = 0
      · rw [if_neg (fun hn => hn g2)] at h2 ⊢
        exact cmpL_tr xs ys zs h1 h2
      · rw [if_pos g2] at h2 ⊢
        exact h2
    · rw [if_pos g1] at h1
      by_cases g2 : cmpA y z = 0
      · have e2 := (cmpA_ord.eq _ _).1 g2
        subst e2
        rw [if_pos g1]
        exact h1
      · rw [if_pos g2] at h2
        have := cmpA_ord.tr _ _ _ h1 h2
        rw [if_pos (by omega)]
        exact this
theorem cmpL_ord : Ord3 cmpL := ⟨cmpL_eq, cmpL_anti, cmpL_tr⟩
theorem cmpS_ord : Ord3 cmpS := by
  have hh : Ord3 fun x y : Int × Int => if cmpI x.1 y.1 ≠ 0 then cmpI x.1 y.1 else cmpI x.2 y.2 := Ord3.then cmpI_ord cmpI_ord (·.1) (·.2) (fun x y h1 h2 => Prod.ext h1 h2)
  have h := Ord3.then (γ := RSt) hh cmpL_ord (fun s => (headS s, s.out)) (·.arcs) (fun x y h1 h2 => by
    simp only [Prod.mk.injEq] at h1
    obtain ⟨h3, h4⟩ := h1
    unfold headS at h3
    rw [h2] at h3
    cases x with
    | mk f1 o1 a1 =>
      cases y with
      | mk f2 o2 a2 =>
        simp only at h2 h3 h4
        subst h2 h4
        cases f1 <;> cases f2 <;> simp at h3 ⊢ <;> omega)
  have e : cmpS = fun s t : RSt => if (if cmpI (headS s) (headS t) ≠ 0 then cmpI (headS s) (headS t) else cmpI s.out t.out) ≠ 0 then (if cmpI (headS s) (headS t) ≠ 0 then cmpI (headS s) (headS t) else cmpI s.out t.out) else cmpL s.arcs t.arcs := by
    funext s t
    have eh : cmpH s t = if cmpI (headS s) (headS t) ≠ 0 then cmpI (headS s) (headS t) else cmpI s.out t.out := by
      unfold cmpH orI orI orI
      by_cases h1 : cmpI (headS s) (headS t) = 0
      · by_cases h2 : cmpI s.out t.out = 0 <;> simp [h1, h2]
      · simp [h1]
    unfold cmpS
    rw [eh]
  rw [e]
  exact h
end Go.Proofs.YthfngcpcccbnpaaDoor.Pk

/- Texts that were written apart, joined. -/
import Derived.Test.YtnfjgbfmkelalaaDoorInvAll
import Derived.Test.YtnfjgbfmkelalaaDoorFRest3
/- Rests behind beginnings: what Rises goes through. Plain mathematics. -/
namespace Go.Proofs.YtnfjgbfmkelalaaDoor.Fm
open Go.Proofs.YtnfjgbfmkelalaaDoor.Nums

def behind : List Int → List En → List En
  | [], S => S
  | c :: t, S => behind t (after c S)
theorem behind_snoc : ∀ (p : List Int) (c : Int) (S : List En), behind (p ++ [c]) S = after c (behind p S)
  | [], _, _ => rfl
  | d :: t, c, S => behind_snoc t c (after d S)
theorem behind_step {xs : List Int} {k : Nat} {c : Int} (h : xs[k]? = some c) (S : List En) : behind (xs.take (k + 1)) S = after c (behind (xs.take k) S) := by
  rw [List.take_add_one, h]
  exact behind_snoc _ _ _
theorem after_rest (c : Int) (S : List En) : after c (restOf S) = after c S := by
  cases S with
  | nil => rfl
  | cons e r =>
    obtain ⟨x, n⟩ := e
    cases x with
    | nil => simp [restOf, after]
    | cons d t => rfl
theorem after_flat_none {c : Int} : ∀ (gs : List (Int × List En)), (∀ p ∈ gs, p.1 ≠ c) → after c (flat gs) = []
  | [], _ => rfl
  | p :: r, h => by
    have e : flat (p :: r) = p.2.map (pre p.1) ++ flat r := rfl
    rw [e, after_append, after_pre, if_neg (h p (by simp)), after_flat_none r fun x hx => h x (by simp [hx])]
    rfl
theorem after_flat {c : Int} : ∀ (gs : List (Int × List En)) (p : Int × List En), gs.Pairwise (fun a b => a.1 < b.1) → p ∈ gs → p.1 = c → after c (flat gs) = p.2
  | [], _, _, h, _ => by cases h
  | x :: r, p, hp, h, hc => by
    obtain ⟨h1, h2⟩ := List.pairwise_cons.1 hp
    have e : flat (x :: r) = x.2.map (pre x.1) ++ flat r := rfl
    rw [e, after_append, after_pre]
    rcases List.mem_cons.1 h with rfl | h
    · rw [if_pos hc, after_flat_none r fun y hy => by have := h1 y hy; omega, List.append_nil]
    · have := h1 p h
      rw [if_neg (by omega), after_flat r p h2 h hc]
      rfl
theorem grp_after {S : List En} (hS : Rise S) {p : Int × List En} (hp : p ∈ grp (restOf S)) : after p.1 S = p.2 := by
  obtain ⟨h1, h2⟩ := rise_rest hS
  have hf := flat_grp _ (restOf S) (Nat.le_refl _) h2
  have hl := (grp_labels _ (restOf S) (Nat.le_refl _) h2 h1).1
  rw [← after_rest, ← hf]
  exact after_flat _ p hl hp rfl
theorem after_in_grp {S : List En} (hS : Rise S) {c : Int} (h : after c S ≠ []) : (c, after c S) ∈ grp (restOf S) := by
  obtain ⟨h1, h2⟩ := rise_rest hS
  have hf := flat_grp _ (restOf S) (Nat.le_refl _) h2
  have hex : ∃ p ∈ grp (restOf S), p.1 = c := by
    apply Classical.byContradiction
    intro hno
    apply h
    rw [← after_rest, ← hf]
    exact after_flat_none _ fun p hp e => hno ⟨p, hp, e⟩
  obtain ⟨p, hp, e⟩ := hex
  have hpa := grp_after hS hp
  rw [e] at hpa
  rw [hpa, ← e]
  exact hp
theorem after_has {c : Int} {t : List Int} {n : Int} : ∀ {S : List En}, (c :: t, n) ∈ S → (t, n) ∈ after c S
  | [], h => by cases h
  | e :: r, h => by
    rw [after]
    rcases List.mem_cons.1 h with h | h
    · rw [← h]
      simp [tl]
    · split
      · exact .tail _ (after_has h)
      · exact after_has h
theorem after_rise {S : List En} (hS : Rise S) (c : Int) : Rise (after c S) := by
  by_cases h : after c S = []
  · rw [h]; exact List.Pairwise.nil
  · obtain ⟨h1, h2⟩ := rise_rest hS
    exact grp_rise _ (restOf S) (Nat.le_refl _) h2 h1 _ (after_in_grp hS h)
/-- What stands behind a word's beginning. -/
theorem behind_word : ∀ (xs : List Int) (n : Int) (S : List En), Rise S → (xs, n) ∈ S → ∀ k, k ≤ xs.length → Sub S (level (behind (xs.take k) S)) ∧ (xs.drop k, n) ∈ behind (xs.take k) S
  | xs, n, S, _, hm, 0, _ => by
    rw [List.take_zero, List.drop_zero]
    exact ⟨.here S, hm⟩
  | [], _, _, _, _, k + 1, hk => by simp at hk
  | c :: t, n, S, hr, hm, k + 1, hk => by
    have hm2 := after_has hm
    obtain ⟨h1, h2⟩ := behind_word t n (after c S) (after_rise hr c) hm2 k (by simpa using hk)
    rw [List.take_succ_cons, List.drop_succ_cons, behind]
    exact ⟨.step (after_in_grp hr (fun e => by rw [e] at hm2; cases hm2)) h1, h2⟩
theorem sub_word {S R : List En} (hs : Sub S R) : Rise S → S ≠ [] → ∃ xs n, (xs, n) ∈ S ∧ ∃ k, k ≤ xs.length ∧ R = level (behind (xs.take k) S) := by
  induction hs with
  | here S =>
    intro _ hne
    obtain ⟨e, he⟩ := List.exists_mem_of_ne_nil _ hne
    exact ⟨e.1, e.2, he, 0, Nat.zero_le _, rfl⟩
  | @step S R p hp hsub ih =>
    intro hr _
    have hpa := grp_after hr hp
    obtain ⟨h1, h2⟩ := rise_rest hr
    obtain ⟨xs, n, hm, k, hk, hR⟩ := ih (grp_rise _ (restOf S) (Nat.le_refl _) h2 h1 p hp) (grp_ne _ _ (Nat.le_refl _) p hp)
    rw [← hpa] at hm hR
    exact ⟨p.1 :: xs, n, after_mem hm, k + 1, by simpa using hk, by rw [List.take_succ_cons]; exact hR⟩
theorem behind_mem : ∀ (p : List Int) (S : List En) (e : En), e ∈ behind p S → ∃ x ∈ S, e.2 = x.2 ∧ e.1.length ≤ x.1.length
  | [], S, e, h => ⟨e, h, rfl, Nat.le_refl _⟩
  | c :: t, S, e, h => by
    obtain ⟨x, hx, h1, h2⟩ := behind_mem t (after c S) e h
    refine ⟨pre c x, after_mem hx, h1, ?_⟩
    simp only [pre, List.length_cons]
    omega
theorem behind_len : ∀ (p : List Int) (S : List En), (behind p S).length ≤ S.length
  | [], _ => Nat.le_refl _
  | c :: t, S => by
    have h1 := behind_len t (after c S)
    have h2 : ∀ l : List En, (after c l).length ≤ l.length := by
      intro l
      induction l with
      | nil => exact Nat.le_refl _
      | cons e r ih =>
        rw [after]
        split
        · simp only [List.length_cons]; omega
        · simp only [List.length_cons]; omega
    have := h2 S
    rw [behind]
    omega
theorem same_len {α : Type} [DecidableEq α] : ∀ (l m : List α), l.Nodup → m.Nodup → (∀ x, x ∈ l ↔ x ∈ m) → l.length = m.length := by
  have le : ∀ (l m : List α), l.Nodup → (∀ x ∈ l, x ∈ m) → l.length ≤ m.length := by
    intro l
    induction l with
    | nil => intro m _ _; exact Nat.zero_le _
    | cons x r ih =>
      intro m hn hs
      obtain ⟨h1, h2⟩ := List.nodup_cons.1 hn
      have hx := hs x (by simp)
      have := ih (m.erase x) h2 fun y hy => (List.mem_erase_of_ne (fun e : y = x => h1 (by rw [← e]; exact hy))).2 (hs y (by simp [hy]))
      have hl := List.length_erase_of_mem hx
      have hp : 0 < m.length := List.length_pos_of_mem hx
      simp only [List.length_cons]
      omega
  intro l m hl hm h
  exact Nat.le_antisymm (le l m hl fun x hx => (h x).1 hx) (le m l hm fun x hx => (h x).2 hx)
end Go.Proofs.YtnfjgbfmkelalaaDoor.Fm

/- The reference's In, Rests, Rises. -/
namespace Go.Proofs.YtnfjgbfmkelalaaDoor
open Go.RowKit Nums Fm
set_option maxRecDepth 100000

/-- Rows of rests, in a row that the call has made. -/
structure AllOwn (E B : Nat) (w : World) (v : Value) (Ds : List (List En)) : Prop where
  ex : ∃ xss : List (List Value), GOwn 65 1 B w v xss ∧ xss.length = Ds.length ∧ ∀ (i : Nat) (R : List En), Ds[i]? = some R → ∃ u, xss[i]? = some [u] ∧ RMade E B w u R
theorem AllOwn.nil (E B : Nat) (w : World) : AllOwn E B w (.slice none 0 0) [] := ⟨[], GOwn.nil _ _ _ _, rfl, fun i R hi => by simp at hi⟩
theorem AllOwn.below {E B : Nat} {w w' : World} {v : Value} {Ds : List (List En)} (h : AllOwn E B w v Ds) (hE : E ≤ w.heap.size) (hb : Below w.heap.size w w') : AllOwn E B w' v Ds := by
  obtain ⟨xss, ho, hl, hx⟩ := h
  refine ⟨xss, ho.below hb, hl, fun i R hi => ?_⟩
  obtain ⟨u, h1, h2⟩ := hx i R hi
  exact ⟨u, h1, h2.below hE hb⟩
theorem AllOwn.shape {E B : Nat} {w : World} {v : Value} {Ds : List (List En)} (h : AllOwn E B w v Ds) : ∃ ad cap, v = .slice ad Ds.length cap := by
  obtain ⟨xss, ho, hl, _⟩ := h
  obtain ⟨ad, cap, e, _⟩ := ho.shape
  exact ⟨ad, cap, by rw [e, hl]⟩
theorem AllOwn.at {E B : Nat} {w : World} {ad : Option Addr} {n cap : Nat} {Ds : List (List En)} (h : AllOwn E B w (.slice ad n cap) Ds) (h0 : 0 < n) : ∃ g, ad = some ⟨g, 0, none⟩ ∧ g < w.heap.size ∧ ∀ (i : Nat) (R : List En), Ds[i]? = some R → ∃ u, w.cell? ⟨g, i, none⟩ = some u ∧ RMade E B w u R := by
  obtain ⟨xss, ho, hl, hx⟩ := h
  obtain ⟨ad', cap', e, _⟩ := ho.shape
  simp only [Value.slice.injEq] at e
  obtain ⟨g, cap2, e2, hg, _, _, hc⟩ := ho.cell (by omega)
  simp only [Value.slice.injEq] at e2
  refine ⟨g, e2.1, hg, fun i R hi => ?_⟩
  obtain ⟨u, h1, h2⟩ := hx i R hi
  refine ⟨u, ?_, h2⟩
  have := hc i 0 _ u h1 rfl
  rwa [Nat.mul_one, Nat.add_zero] at this
theorem rtyRR : RTy 65 47 1 24 := ⟨by kernel_rfl, ⟨.slice none 0 0, by kernel_rfl, rfl⟩, by decide, by decide⟩
/-- Rests that are small. -/
def SmallR (R : List En) : Prop := R.length ≤ 1048576 ∧ ∀ e ∈ R, e.1.length ≤ 1048576
def inIx (Ds : List (List En)) (S : List En) : Int := if S ∈ Ds then (Ds.idxOf S : Int) else -1
theorem in_found {Ds : List (List En)} {S : List En} {k : Nat} (h : Ds[k]? = some S) (hn : S ∉ Ds.take k) : inIx Ds S = k := by
  have hm := List.mem_of_getElem? h
  rw [inIx, if_pos hm]
  have hk := (List.getElem?_eq_some_iff.1 h).1
  have e : Ds = Ds.take k ++ S :: Ds.drop (k + 1) := by
    have := List.drop_eq_getElem_cons hk
    rw [(List.getElem?_eq_some_iff.1 h).2] at this
    rw [← this, List.take_append_drop]
  have h2 : Ds.idxOf S = k := by
    rw [e, List.idxOf_append, if_neg hn, List.idxOf_cons_self, List.length_take]
    omega
  rw [h2]
set_option maxHeartbeats 2000000 in
theorem refIn_any (E B E' : Nat) (w : World) (v vl : Value) (Ds : List (List En)) (S : List En) (h : AllOwn E B w v Ds) (hS : RR E' w vl S) (hsm : SmallR S) (hds : ∀ R ∈ Ds, SmallR R) (hdl : Ds.length ≤ 1048576) :
    Calls Tryd.prog 31 #[v, vl] w fun e w' => e = .returned (.int .i64 (inIx Ds S)) ∧ ∃ q, w' = w.drewN q := by
  obtain ⟨ad, cap, rfl⟩ := h.shape
  obtain ⟨la, lc, rfl⟩ := hS.form
  obtain ⟨n, hn⟩ : ∃ n, Ds.length = n := ⟨_, rfl⟩
  obtain ⟨ln, hln⟩ : ∃ ln, S.length = ln := ⟨_, rfl⟩
  have HN : Hid (Ds.length = n) := hn
  rw [hn] at h hdl ⊢
  rw [hln] at hS ⊢
  have HA : Hid (AllOwn E B w (.slice ad n cap) Ds) := h
  have HS : Hid (RR E' w (.slice la ln lc) S) := hS
  have HSM : Hid (SmallR S ∧ ∀ R ∈ Ds, SmallR R) := ⟨hsm, hds⟩
  obtain ⟨F, hF⟩ : ∃ F, inIx Ds S = F := ⟨_, rfl⟩
  have HF : Hid (inIx Ds S = F) := hF
  rw [hF]
  clear h hS hn hln hF hsm hds
  go_enter Tryd.func31, Tryd.ntmps31
  go_wp2
  go_loopg [5, 6] n (fun g s5 _ wr => ∃ (k q : Nat), s5 = .int .i64 k ∧ k ≤ n ∧ n - k ≤ g ∧ Hid (wr = w.drewN q) ∧ Hid (S ∉ Ds.take k))
  case atStart => exact ⟨0, 0, rfl, Nat.zero_le _, by omega, rfl, fun h => by simp at h⟩
  case round =>
    obtain ⟨k, q, rfl, hk, hg, HW, HK⟩ := hrel
    by_cases hlt : k < n
    · have hltz : (k : Int) < (n : Int) := by omega
      obtain ⟨R, hR⟩ : ∃ R, Ds[k]? = some R := ⟨Ds[k]'(by have := HN.out; omega), List.getElem?_eq_getElem _⟩
      obtain ⟨ga, rfl, hga, hx⟩ := HA.out.at (by omega)
      obtain ⟨u, hu, hM⟩ := hx k R hR
      have c0 : wr.cell? ⟨ga, k, none⟩ = some u := by rw [HW.out]; exact hu
      obtain ⟨ud, uc, rfl⟩ := hM.row.form
      obtain ⟨un, hun⟩ : ∃ un, R.length = un := ⟨_, rfl⟩
      have HCALL : Hid (Calls Tryd.prog 43 #[.slice ud R.length uc, .slice la ln lc] wr fun e w' => e = .returned (.bool (decide (R = S))) ∧ ∃ q, w' = w.drewN q) := by
        show Calls _ _ _ _ _
        rw [HW.out]
        have r1 : RR E (w.drewN q) (.slice ud R.length uc) R := by
          obtain ⟨ad, cap, e, hc⟩ := hM.row
          refine ⟨ad, cap, e, fun h0 => ?_⟩
          obtain ⟨g, off, h1, h2, h3⟩ := hc h0
          exact ⟨g, off, h1, h2, fun i e hi => by obtain ⟨u, ⟨a, b, c⟩, d⟩ := h3 i e hi; exact ⟨u, ⟨a, b, c.below (belowN (Below.refl E w) q)⟩, d⟩⟩
        have r2 : RR E' (w.drewN q) (.slice la ln lc) S := by
          obtain ⟨ad, cap, e, hc⟩ := HS.out
          refine ⟨ad, cap, e, fun h0 => ?_⟩
          obtain ⟨g, off, h1, h2, h3⟩ := hc h0
          exact ⟨g, off, h1, h2, fun i e hi => by obtain ⟨u, ⟨a, b, c⟩, d⟩ := h3 i e hi; exact ⟨u, ⟨a, b, c.below (belowN (Below.refl E' w) q)⟩, d⟩⟩
        have hsr := HSM.out.2 R (List.mem_of_getElem? hR)
        refine (refsame_any E E' (w.drewN q) _ _ R S r1 r2 hsr.1 HSM.out.1.1 hsr.2 HSM.out.1.2).mono ?_
        rintro e w' ⟨h1, m, h2⟩
        exact ⟨h1, _, by rw [h2]; exact World.drewN_drewN ..⟩
      have HYES : Hid (R = S → F = (k : Int)) := fun e => by rw [← HF.out]; exact in_found (by rw [hR, e]) HK.out
      have HNO : Hid (R ≠ S → S ∉ Ds.take (k + 1)) := fun e hm => by
        rw [List.take_add_one, hR] at hm
        rcases List.mem_append.1 hm with hm | hm
        · exact HK.out hm
        · simp at hm; exact e hm.symm
      rw [hun] at c0 HCALL
      clear hx hR hu hM hun
      by_cases hRS : R = S
      · have HE : Hid (F = (k : Int)) := HYES.out hRS
        rw [decide_eq_true hRS] at HCALL
        clear hRS
        go_wp2_with (go_at_call 43; refine HCALL.out.mono ?_; rintro e w3 ⟨rfl, hw3⟩; have HW3 : Hid _ := hw3; clear hw3)
        go_ret
        exact ⟨by rw [HE.out]; rfl, HW3.out⟩
      · have HNO2 : Hid (S ∉ Ds.take (k + 1)) := HNO.out hRS
        rw [decide_eq_false hRS] at HCALL
        clear hRS
        go_wp2_with (go_at_call 43; refine HCALL.out.mono ?_; rintro e w3 ⟨rfl, hw3⟩; have HW3 : Hid _ := hw3; clear hw3)
        go_roundg (n - (k + 1))
        case measure => omega
        case rel =>
          obtain ⟨qq, hqq⟩ := HW3.out
          exact ⟨k + 1, qq, by go_num, by omega, Nat.le_refl _, hqq, HNO2⟩
    · have hltz : ¬ (k : Int) < (n : Int) := by omega
      have HE : Hid (F = -1) := by
        show _ = _
        rw [← HF.out]
        have h := HK.out
        rw [List.take_of_length_le (by have := HN.out; omega)] at h
        rw [inIx, if_neg h]
      go_wp2
      go_ret
      exact ⟨by rw [HE.out]; rfl, q, HW.out⟩
/-- Rests that are being made of words. -/
structure RstsAt (B : Nat) (w : World) (v : Value) (es : List En) : Prop where
  ex : ∃ xss : List (List Value), GOwn 68 2 B w v xss ∧ xss.length = es.length ∧ ∀ (i : Nat) (e : En), es[i]? = some e → ∃ u, xss[i]? = some [u, .int .i64 e.2] ∧ Made B w u e.1
theorem Made.cap {B : Nat} {w : World} {v : Value} {xs : List Int} (h : Made B w v xs) : CapOk v := by
  obtain ⟨_, ⟨e, _⟩ | ⟨g, cap, cur, rfl, _, _, h3, _⟩⟩ := h
  · rw [e]; exact Nat.le_refl _
  · exact h3
theorem RstsAt.row {B : Nat} {w : World} {v : Value} {es : List En} (h : RstsAt B w v es) : RR w.heap.size w v es := by
  obtain ⟨xss, ho, hl, hx⟩ := h
  by_cases h0 : 0 < xss.length
  · obtain ⟨g, cap, rfl, hg, _, _, hcell⟩ := ho.cell h0
    refine ⟨_, cap, by rw [hl], fun _ => ⟨g, 0, rfl, hg, fun i e hi => ?_⟩⟩
    obtain ⟨u, hu, hm⟩ := hx i e hi
    exact ⟨u, ⟨by rw [Nat.zero_add]; exact hcell i 0 _ u hu rfl, by rw [Nat.zero_add]; exact hcell i 1 _ _ hu rfl, hm.runes⟩, hm.cap⟩
  · obtain ⟨ad, cap, rfl, _⟩ := ho.shape
    exact ⟨ad, cap, by rw [hl], fun h => absurd h (by omega)⟩
set_option maxHeartbeats 1000000 in
theorem refRests_any (w : World) (v : Value) (l : List Pr) (h : PRow w v l) (hl : l.length ≤ 4096) (hwd : Wd l) :
    Calls Tryd.prog 29 #[v] w fun e w' => ∃ v', e = .returned v' ∧ RR w'.heap.size w' v' (ents l) ∧ Below w.heap.size w w' := by
  obtain ⟨ad, cap, rfl⟩ := h.form
  have HR : Hid (PRow w (.slice ad l.length cap) l) := h
  obtain ⟨n, hn⟩ : ∃ n, l.length = n := ⟨_, rfl⟩
  have HN : Hid (l.length = n) := hn
  have HS : Hid (Wd l) := hwd
  rw [hn] at HR hl
  clear h hwd
  rw [hn]
  clear hn
  go_enter Tryd.func29, Tryd.ntmps29
  go_wp2
  go_loopg [3, 4, 5, 6] n (fun g s3 s4 _ _ wr => ∃ (k : Nat), s4 = .int .i64 k ∧ k ≤ n ∧ n - k ≤ g ∧ Hid (Below w.heap.size w wr) ∧ Hid (RstsAt w.heap.size wr s3 (ents (l.take k))))
  case atStart => exact ⟨0, rfl, Nat.zero_le _, by omega, Below.refl _ _, ⟨[], GOwn.nil _ _ _ _, rfl, fun i e hi => by simp [ents] at hi⟩⟩
  case round =>
    obtain ⟨k, rfl, hk, hg, HB, HK⟩ := hrel
    by_cases hlt : k < n
    · have hltz : (k : Int) < (n : Int) := by omega
      obtain ⟨x, hx⟩ : ∃ x, l[k]? = some x := ⟨l[k]'(by have := HN.out; omega), List.getElem?_eq_getElem _⟩
      obtain ⟨b, off, rfl, hb, hcell⟩ := (HR.out.below HB.out).at (by omega)
      obtain ⟨c0, c1⟩ := hcell k x hx
      obtain ⟨xs, hxs, hx24, hx96⟩ := HS.out x (List.mem_of_getElem? hx)
      have HE : Hid (ents (l.take (k + 1)) = ents (l.take k) ++ [(xs, x.2)]) := by show _ = _; rw [ents_snoc hx, entOf, hxs]; rfl
      have HRN : Hid (Calls Tryd.prog 16 #[.string x.1] wr fun e w' => ∃ v, Below wr.heap.size wr w' ∧ e = .returned (.tuple #[v, .bool true]) ∧ Made wr.heap.size w' v xs) := by
        refine (RefRunes_any x.1 wr (by omega) (room_of_runes hxs (by omega))).mono ?_
        rintro e w' ⟨v, hb, ⟨h1, _⟩ | ⟨ys, h1, h2, h3⟩⟩
        · rw [hxs] at h1; cases h1
        · rw [hxs] at h1; cases h1; exact ⟨v, hb, h2, h3⟩
      have HC1 : Hid (wr.cell? ⟨b, off + k * 2 + 1, none⟩ = some (.int .i64 x.2) ∧ b < wr.heap.size) := ⟨c1, hb⟩
      clear hcell hx hxs
      go_upto_region 6 with (go_at_call 16; refine HRN.out.mono ?_; rintro e w2 ⟨v6, hb2, rfl, hm6⟩)
      obtain ⟨xss, ho, hxl, hxe⟩ := HK.out.ex
      have c21 : w2.cell? ⟨b, off + k * 2 + 1, none⟩ = some (.int .i64 x.2) := (hb2.cell (p := ⟨b, off + k * 2 + 1, none⟩) HC1.out.2).trans HC1.out.1
      have ho2 : GOwn 68 2 w.heap.size w2 u3 xss := ho.below hb2
      have hsz : w.heap.size ≤ wr.heap.size := HB.out.size
      have HO2 : Hid (GOwn 68 2 w.heap.size w2 u3 xss) := ho2
      have HM : Hid (∀ (i : Nat) (e : En), (ents (l.take k))[i]? = some e → ∃ u, xss[i]? = some [u, .int .i64 e.2] ∧ Made w.heap.size w2 u e.1) := fun i e hi => by
        obtain ⟨u, h1, h2⟩ := hxe i e hi
        exact ⟨u, h1, h2.below hb2⟩
      have HM6 : Hid (Made w.heap.size w2 v6 xs) := by
        obtain ⟨hl, hn | ⟨g, cap, cur, rfl, h1, h2⟩⟩ := hm6
        · exact ⟨hl, .inl hn⟩
        · exact ⟨hl, .inr ⟨g, cap, cur, rfl, by omega, h2⟩⟩
      obtain ⟨ra, rc, rfl⟩ := hm6.shape
      have HB2 : Hid (Below w.heap.size w w2) := HB.out.trans (hb2.mono HB.out.size)
      have HL : Hid (xss.length = k) := by show _ = _; rw [hxl, ents_len, List.length_take]; have := HN.out; omega
      clear ho ho2 hxe hxl hm6 hb2 c0 c1
      go_wp2_with (at_builtin; refine append_g rtyR (by rfl) _ _ [.slice ra xs.length rc, .int .i64 x.2] _ rfl w.heap.size _ _ _ _ rfl HO2.out rfl rfl ⟨rfl, by simp [Value.oneCell']⟩ (by have := HL.out; omega) HB2.out.size ?_)
      intro v7 w7 ho7 hb7 hg7
      have HB7 : Hid (Below w.heap.size w w7) := HB2.out.trans hb7
      have HK7 : Hid (RstsAt w.heap.size w7 v7 (ents (l.take (k + 1)))) := by
        show RstsAt _ _ _ _
        have hA2 : Below w2.heap.size w2 (w2.alloc (.cells [.slice ra xs.length rc, .int .i64 x.2].toArray 68)) := (Below.refl _ w2).alloc (Nat.le_refl _) _
        have hk7 : ∀ {u : Value} {ys : List Int}, Made w.heap.size w2 u ys → Made w.heap.size w7 u ys := fun h => (h.below hA2).kept (HO2.out.below hA2) (by decide) hg7
        rw [HE.out]
        refine ⟨xss ++ [[.slice ra xs.length rc, .int .i64 x.2]], ho7, by simp [HL.out, ents_len]; have := HN.out; omega, fun i e hi => ?_⟩
        have hlen : (ents (l.take k)).length = xss.length := by rw [ents_len, HL.out, List.length_take]; have := HN.out; omega
        by_cases hik : i < xss.length
        · rw [List.getElem?_append_left (by omega)] at hi ⊢
          obtain ⟨u, h1, h2⟩ := HM.out i e hi
          exact ⟨u, h1, hk7 h2⟩
        · rw [List.getElem?_append_right (by omega)] at hi ⊢
          rw [hlen] at hi
          cases hi0 : i - xss.length with
          | zero =>
            rw [hi0] at hi
            simp only [List.getElem?_cons_zero, Option.some.injEq] at hi
            subst hi
            exact ⟨_, rfl, hk7 HM6.out⟩
          | succ m => rw [hi0] at hi; simp at hi
      clear ho7 hb7 hg7 HM HM6 HO2
      go_wp2_with fail
      go_roundg (n - (k + 1))
      case measure => omega
      case rel => exact ⟨k + 1, by go_num, by omega, Nat.le_refl _, HB7, HK7⟩
    · have hltz : ¬ (k : Int) < (n : Int) := by omega
      have HE : Hid (l.take k = l) := List.take_of_length_le (by have := HN.out; omega)
      go_wp2
      go_ret
      exact ⟨_, rfl, by have := HK.out.row; rwa [HE.out] at this, HB.out⟩
end Go.Proofs.YtnfjgbfmkelalaaDoor

/- The reference's Rises, walked. -/
namespace Go.Proofs.YtnfjgbfmkelalaaDoor
open Go.RowKit Nums Fm
set_option maxRecDepth 100000

theorem RMade.mono {E B B' : Nat} {w : World} {v : Value} {S : List En} (h : RMade E B w v S) (hB : B' ≤ B) : RMade E B' w v S := by
  obtain ⟨xss, ho, hl, hx⟩ := h
  exact ⟨xss, ho.mono hB, hl, hx⟩
theorem RMade.kept {E B B' k : Nat} {T : TypeId} {w w' : World} {v u : Value} {S : List En} {yss : List (List Value)} (h : RMade E B w v S) (ho' : GOwn T k B' w u yss) (hT : T ≠ 68) (hg : w.grownBy w' u.ownBlock) (hb : Below E w w') : RMade E B w' v S := by
  obtain ⟨xss, ho, hl, hx⟩ := h
  refine ⟨xss, ho.same fun g hgv => ?_, hl, fun i e hi => ?_⟩
  · obtain ⟨_, cur, hc⟩ := ho.block hgv
    refine hg.block g (ho.lt hgv) fun e => ?_
    obtain ⟨_, cur', hc'⟩ := ho'.block e.symm
    rw [hc] at hc'
    simp only [Option.some.injEq, Obj.cells.injEq] at hc'
    exact hT hc'.2.1.symm
  · obtain ⟨y, h1, h2, h3⟩ := hx i e hi
    exact ⟨y, h1, h2.below hb, h3⟩
/-- Rests that lie below E, or that were made. -/
def RRb (E : Nat) (w : World) (v : Value) (S : List En) : Prop :=
  ∃ ad cap, v = .slice ad S.length cap ∧ (0 < S.length → ∃ g off, ad = some ⟨g, off, none⟩ ∧ g < E ∧ ∀ i e, S[i]? = some e → ∃ u, EntAt E w g (off + i * 2) u e ∧ CapOk u)
structure Und (E : Nat) (w : World) (v : Value) (S : List En) : Prop where
  or : RRb E w v S ∨ RMade E E w v S
theorem RRb.belowE {E : Nat} {w w' : World} {v : Value} {S : List En} (h : RRb E w v S) (hb : Below E w w') : RRb E w' v S := by
  obtain ⟨ad, cap, rfl, hc⟩ := h
  refine ⟨ad, cap, rfl, fun h0 => ?_⟩
  obtain ⟨g, off, rfl, hg, hx⟩ := hc h0
  refine ⟨g, off, rfl, hg, fun i e hi => ?_⟩
  obtain ⟨u, ⟨c0, c1, hr⟩, hk⟩ := hx i e hi
  exact ⟨u, ⟨(hb.cell (p := ⟨g, off + i * 2, none⟩) hg).trans c0, (hb.cell (p := ⟨g, off + i * 2 + 1, none⟩) hg).trans c1, hr.below hb⟩, hk⟩
theorem Und.row {E : Nat} {w : World} {v : Value} {S : List En} (h : Und E w v S) (hE : E ≤ w.heap.size) : RR E w v S := by
  rcases h.or with h | h
  · obtain ⟨ad, cap, rfl, hc⟩ := h
    refine ⟨ad, cap, rfl, fun h0 => ?_⟩
    obtain ⟨g, off, e, hg, hx⟩ := hc h0
    exact ⟨g, off, e, by omega, hx⟩
  · exact h.row
theorem Und.below {E : Nat} {w w' : World} {v : Value} {S : List En} (h : Und E w v S) (hE : E ≤ w.heap.size) (hb : Below w.heap.size w w') : Und E w' v S := by
  rcases h.or with h | h
  · exact ⟨.inl (h.belowE (hb.mono hE))⟩
  · exact ⟨.inr (h.below hE hb)⟩
theorem Und.kept {E B' k : Nat} {T : TypeId} {w w' : World} {v u : Value} {S : List En} {yss : List (List Value)} (h : Und E w v S) (ho' : GOwn T k B' w u yss) (hT : T ≠ 68) (hg : w.grownBy w' u.ownBlock) (hb : Below E w w') : Und E w' v S := by
  rcases h.or with h | h
  · exact ⟨.inl (h.belowE hb)⟩
  · exact ⟨.inr (h.kept ho' hT hg hb)⟩
/-- What Rises has found. -/
structure RDone (S : List En) (Ds : List (List En)) (i : Nat) : Prop where
  nd : Ds.Nodup
  sub : ∀ R ∈ Ds, Sub S R
  all : ∀ (j : Nat) (e : En), j < i → S[j]? = some e → ∀ k, k ≤ e.1.length → level (behind (e.1.take k) S) ∈ Ds
set_option maxHeartbeats 4000000 in
theorem refRises_any (w : World) (v : Value) (l : List Pr) (h : PRow w v l) (hd : DictOk l) (hl : l.length ≤ 300) :
    Calls Tryd.prog 20 #[v] w fun e w' => ∃ ad cap Ds, e = .returned (.slice ad (List.length Ds) cap) ∧ Ds.Nodup ∧ (∀ R ∈ Ds, Sub (ents l) R) ∧ (∀ R, ents l ≠ [] → Sub (ents l) R → R ∈ Ds) ∧ Ds.length ≤ 100 * (ents l).length ∧ Below w.heap.size w w' := by
  have HRE := refRests_any w v l h (by omega) hd.wd
  obtain ⟨ad0, cap0, rfl⟩ := h.form
  obtain ⟨S, hS⟩ : ∃ S, ents l = S := ⟨_, rfl⟩
  rw [hS] at HRE ⊢
  have HREH : Hid (Calls Tryd.prog 29 #[.slice ad0 l.length cap0] w fun e w' => ∃ v', e = .returned v' ∧ RR w'.heap.size w' v' S ∧ Below w.heap.size w w') := HRE
  obtain ⟨nl, hnl⟩ : ∃ nl, l.length = nl := ⟨_, rfl⟩
  rw [hnl] at HREH hl ⊢
  obtain ⟨n, hn⟩ : ∃ n, S.length = n := ⟨_, rfl⟩
  have HNS : Hid (S.length = n) := hn
  have hn300 : n ≤ 300 := by rw [← hn, ← hS, ents_len, hnl]; exact hl
  have HEN : Hid (EnOk S) := by show EnOk _; rw [← hS]; exact hd.en
  have HRI : Hid (Rise S) := by show Rise _; rw [← hS]; exact hd.rise
  clear h hd HRE hS hnl hn
  go_enter Tryd.func20, Tryd.ntmps20
  go_upto_region 3 with (go_at_call 29; refine HREH.out.mono ?_; rintro e w1 ⟨v4, rfl, hr4, hb1⟩; have HR4 : Hid (RR w1.heap.size w1 v4 S) := hr4; have HB1 : Hid _ := hb1; clear hr4 hb1)
  obtain ⟨a4, c4, hv4⟩ := HR4.out.form
  rw [HNS.out] at hv4
  subst hv4
  obtain ⟨E, hE⟩ : ∃ E, E = w1.heap.size := ⟨_, rfl⟩
  rw [← hE] at HR4
  have HE : Hid (E = w1.heap.size) := hE
  clear hE
  go_wp2
  go_loopg [3, 5, 6, 7, 8] n (fun gm s3 s5 _ _ _ wr => ∃ (i : Nat) (Ds : List (List En)), s5 = .int .i64 i ∧ i ≤ n ∧ n - i ≤ gm ∧ Hid (AllOwn E E wr s3 Ds) ∧ Hid (RDone S Ds i ∧ Ds.length ≤ 100 * i) ∧ Hid (Below w1.heap.size w1 wr))
  case atStart => exact ⟨0, [], rfl, Nat.zero_le _, by omega, AllOwn.nil _ _ _, ⟨⟨List.nodup_nil, (fun R h => by cases h), (fun j e hj => by omega)⟩, by simp⟩, Below.refl _ _⟩
  case round =>
    obtain ⟨i, Ds, rfl, hi, hgm, HA, HDO, HBr⟩ := hrel
    by_cases hlt : i < n
    · have hltz : (i : Int) < (n : Int) := by omega
      obtain ⟨x, hx⟩ : ∃ x, S[i]? = some x := ⟨S[i]'(by have := HNS.out; omega), List.getElem?_eq_getElem _⟩
      obtain ⟨g4, o4, rfl, hg4, hc4⟩ := HR4.out.at (by omega)
      obtain ⟨u, ⟨c0, c1, hr⟩, hck⟩ := hc4 i x hx
      obtain ⟨xd, xc, hu, _⟩ := id hr
      obtain ⟨xs, hxs⟩ : ∃ xs, x.1 = xs := ⟨_, rfl⟩
      obtain ⟨nx, hnx⟩ : ∃ nx, xs.length = nx := ⟨_, rfl⟩
      rw [hxs, hnx] at hu
      subst hu
      rw [hxs] at hr
      have hxm : (xs, x.2) ∈ S := by rw [← hxs]; exact List.mem_of_getElem? hx
      have hnx24 : nx ≤ 24 := by rw [← hnx]; exact HEN.out.ln _ hxm
      have HNX : Hid (xs.length = nx) := hnx
      have HXR : Hid (RunesAt E w1 (.slice xd nx xc) xs) := hr
      have HC0 : Hid (w1.cell? ⟨g4, o4 + i * 2, none⟩ = some (.slice xd nx xc)) := c0
      have HG4 : Hid (g4 < w1.heap.size) := hg4
      have HXI : Hid (S[i]? = some x ∧ x.1 = xs) := ⟨hx, hxs⟩
      have HXM : Hid ((xs, x.2) ∈ S) := hxm
      have HRS : Hid (RR w1.heap.size w1 (.slice (some ⟨g4, o4, none⟩) n c4) S) := by rw [← HE.out]; exact HR4.out
      have c0r : wr.cell? ⟨g4, o4 + i * 2, none⟩ = some (.slice xd nx xc) := (HBr.out.cell (p := ⟨g4, o4 + i * 2, none⟩) hg4).trans c0
      have HU0 : Hid (Und E wr (.slice (some ⟨g4, o4, none⟩) n c4) (behind (xs.take 0) S)) := by
        show Und _ _ _ _
        rw [List.take_zero]
        refine ⟨.inl (RRb.belowE (w := w1) ?_ (by rw [HE.out]; exact HBr.out))⟩
        obtain ⟨a, b, e, hc⟩ := HR4.out
        refine ⟨a, b, e, fun h0 => ?_⟩
        obtain ⟨g, off, h1, h2, h3⟩ := hc h0
        exact ⟨g, off, h1, by rw [HE.out]; exact h2, h3⟩
      clear hc4 hx hr hck c0 c1 hxs hnx hxm
      go_wp2
      go_loopg [3, 6, 7, 8] (nx + 1) (fun gm2 s3 s6 s7 _ wq => ∃ (k : Nat) (Ds : List (List En)), s7 = .int .i64 k ∧ k ≤ nx + 1 ∧ nx + 1 - k ≤ gm2 ∧ Hid (AllOwn E E wq s3 Ds) ∧ Hid (RDone S Ds i ∧ Ds.length ≤ 100 * i + k ∧ ∀ j, j < k → level (behind (xs.take j) S) ∈ Ds) ∧ Hid (Below w1.heap.size w1 wq) ∧ Hid (Und E wq s6 (behind (xs.take k) S)))
      case atStart => exact ⟨0, Ds, rfl, by omega, by omega, HA, ⟨HDO.out.1, by have := HDO.out.2; omega, fun j hj => by omega⟩, HBr, HU0⟩
      case round =>
        clear c0r HA HDO HBr HU0
        obtain ⟨k, Ds, rfl, hk, hgm2, HA, HDO, HBr, HU⟩ := hrel
        have HEr : Hid (E ≤ wr.heap.size) := by show _ ≤ _; rw [HE.out]; exact HBr.out.size
        have c0r : wr.cell? ⟨g4, o4 + i * 2, none⟩ = some (.slice xd nx xc) := (HBr.out.cell (p := ⟨g4, o4 + i * 2, none⟩) HG4.out).trans HC0.out
        by_cases hlek : k ≤ nx
        · have hlekz : (k : Int) ≤ (nx : Int) := by omega
          obtain ⟨hsub, hmem⟩ := behind_word xs x.2 S HRI.out HXM.out k (by have := HNX.out; omega)
          have HUS : Hid ((behind (xs.take k) S).length ≤ 1048576 ∧ SmallR (level (behind (xs.take k) S))) := by
            have h1 := behind_len (xs.take k) S
            rw [HNS.out] at h1
            refine ⟨by omega, by simp only [level, shift, List.length_map]; omega, fun e he => ?_⟩
            obtain ⟨y, hy, rfl⟩ := List.mem_map.1 he
            obtain ⟨z, hz, _, h3⟩ := behind_mem _ _ _ hy
            have := HEN.out.ln z hz
            simp only
            omega
          have hUne : 0 < (behind (xs.take k) S).length := List.length_pos_of_mem hmem
          have hLV := refLevel_any E wr u6 (behind (xs.take k) S) (HU.out.row HEr.out) hUne HUS.out.1 HEr.out (fun e he => by
            obtain ⟨z, hz, h2, _⟩ := behind_mem _ _ _ he
            have := HEN.out.wt z hz
            omega)
          have HLV : Hid (Calls Tryd.prog 30 #[u6] wr fun e w' => ∃ v', e = .returned v' ∧ RMade E wr.heap.size w' v' (level (behind (xs.take k) S)) ∧ Below wr.heap.size wr w') := hLV
          have HSUB : Hid (Sub S (level (behind (xs.take k) S))) := hsub
          clear hsub hmem hUne hLV
          go_upto_region 11 with (go_at_call 30; refine HLV.out.mono ?_; rintro e w3 ⟨v8, rfl, hM3, hb3⟩; have HM3 : Hid _ := hM3; have HB3 : Hid _ := hb3; clear hM3 hb3)
          have HE3 : Hid (E ≤ w3.heap.size) := Nat.le_trans HEr.out HB3.out.size
          have HA3 : Hid (AllOwn E E w3 u3 Ds) := HA.out.below HEr.out HB3.out
          obtain ⟨L, hL⟩ : ∃ L, level (behind (xs.take k) S) = L := ⟨_, rfl⟩
          rw [hL] at HM3 HSUB HUS
          have HLE : Hid (level (behind (xs.take k) S) = L) := hL
          have hIN := refIn_any E E E w3 u3 v8 Ds L HA3.out HM3.out.row HUS.out.2 (fun R hR => by
            have hsr := HDO.out.1.sub R hR
            obtain ⟨ys, m, hm, j, hj, rfl⟩ := sub_word hsr HRI.out (fun e => by have := HXM.out; rw [e] at this; cases this)
            refine ⟨by have := behind_len (ys.take j) S; rw [HNS.out] at this; simp only [level, shift, List.length_map]; omega, fun e he => ?_⟩
            obtain ⟨y, hy, rfl⟩ := List.mem_map.1 he
            obtain ⟨z, hz, _, h3⟩ := behind_mem _ _ _ hy
            have := HEN.out.ln z hz
            simp only
            omega) (by have := HDO.out.2.1; omega)
          have HIN : Hid (Calls Tryd.prog 31 #[u3, v8] w3 fun e w' => e = .returned (.int .i64 (inIx Ds L)) ∧ ∃ q, w' = w3.drewN q) := hIN
          clear hIN hL
          by_cases hLm : L ∈ Ds
          · have hix : 0 ≤ inIx Ds L := by rw [inIx, if_pos hLm]; omega
            have hixz : ¬ inIx Ds L < 0 := by omega
            have HD2 : Hid (RDone S Ds i ∧ Ds.length ≤ 100 * i + (k + 1) ∧ ∀ j, j < k + 1 → level (behind (xs.take j) S) ∈ Ds) := ⟨HDO.out.1, by have := HDO.out.2.1; omega, fun j hj => by
              by_cases e : j = k
              · rw [e, HLE.out]; exact hLm
              · exact HDO.out.2.2 j (by omega)⟩
            clear hLm hix
            generalize inIx Ds L = ix at *
            obtain ⟨Ds2, hDs2⟩ : ∃ Ds2, Ds2 = Ds := ⟨_, rfl⟩
            go_upto_region 13 with (go_at_call 31; refine HIN.out.mono ?_; rintro e W ⟨rfl, q, hq⟩; have HQ : Hid _ := hq; clear hq)
            have hbq : Below w3.heap.size w3 W := by rw [HQ.out]; exact belowN (Below.refl _ w3) q
            have HBW : Hid (Below w1.heap.size w1 W) := (HBr.out.trans (HB3.out.mono HBr.out.size)).trans (hbq.mono (Nat.le_trans HBr.out.size HB3.out.size))
            have HEW : Hid (E ≤ W.heap.size) := Nat.le_trans HE3.out hbq.size
            have HALL : Hid (AllOwn E E W u3 Ds2) := by rw [hDs2]; exact HA3.out.below HE3.out hbq
            have HUW : Hid (Und E W u6 (behind (xs.take k) S)) := (HU.out.below HEr.out HB3.out).below HE3.out hbq
            rw [← hDs2] at HD2
            clear hbq hDs2 c0r
            have t0 : W.cell? ⟨g4, o4 + i * 2, none⟩ = some (.slice xd nx xc) := (HBW.out.cell (p := ⟨g4, o4 + i * 2, none⟩) HG4.out).trans HC0.out
            by_cases hkx : k < nx
            · have hkxz : (k : Int) < (nx : Int) := by omega
              obtain ⟨c, hc⟩ : ∃ c, xs[k]? = some c := ⟨xs[k]'(by have := HNX.out; omega), List.getElem?_eq_getElem _⟩
              obtain ⟨gx, ox, exd, hzx, hxc⟩ := HXR.out.get (k := k) (by have := HNX.out; omega)
              subst exd
              have hcx : (xs.drop k).headD 0 = c := by rw [List.headD_eq_head?_getD, List.head?_drop, hc]; rfl
              rw [hcx] at hxc
              have t1 : W.cell? ⟨gx, ox + k, none⟩ = some (.int .i32 c) := (HBW.out.cell (p := ⟨gx, ox + k, none⟩) (lt_of_cell hxc)).trans hxc
              have HEU : Hid (behind (xs.take (k + 1)) S = after c (behind (xs.take k) S)) := behind_step hc S
              have HUND := refUnder_any E W u6 (behind (xs.take k) S) c (HUW.out.row HEW.out) HUS.out.1 HEW.out
              have HUNDH : Hid (Calls Tryd.prog 32 #[u6, .int .i32 c] W fun e w' => ∃ v', e = .returned v' ∧ RMade E W.heap.size w' v' (after c (behind (xs.take k) S)) ∧ Below W.heap.size W w') := HUND
              clear HUND hzx hxc hcx hc
              go_wp2_with (go_at_call 32; refine HUNDH.out.mono ?_; rintro e w9 ⟨v9, rfl, hM9, hb9⟩; have HM9 : Hid _ := hM9; have HB9 : Hid _ := hb9; clear hM9 hb9)
              have HU9 : Hid (Und E w9 v9 (behind (xs.take (k + 1)) S)) := by show Und _ _ _ _; rw [HEU.out]; exact ⟨.inr (HM9.out.mono HEW.out)⟩
              have HA9 : Hid (AllOwn E E w9 u3 Ds2) := HALL.out.below HEW.out HB9.out
              have HB9w : Hid (Below w1.heap.size w1 w9) := HBW.out.trans (HB9.out.mono HBW.out.size)
              go_roundg (nx + 1 - (k + 1))
              case measure => omega
              case rel => exact ⟨k + 1, Ds2, by go_num, by omega, Nat.le_refl _, HA9, HD2, HB9w, HU9⟩
            · have hkxz : ¬ (k : Int) < (nx : Int) := by omega
              have HU9 : Hid (Und E W u6 (behind (xs.take (k + 1)) S)) := by
                show Und _ _ _ _
                have : xs.take (k + 1) = xs.take k := by rw [List.take_of_length_le (by have := HNX.out; omega), List.take_of_length_le (by have := HNX.out; omega)]
                rw [this]; exact HUW.out
              go_wp2
              go_roundg (nx + 1 - (k + 1))
              case measure => omega
              case rel => exact ⟨k + 1, Ds2, by go_num, by omega, Nat.le_refl _, HALL, HD2, HBW, HU9⟩
          · have hix : inIx Ds L = -1 := by rw [inIx, if_neg hLm]
            rw [hix] at HIN
            obtain ⟨Ds2, hDs2⟩ : ∃ Ds2, Ds2 = Ds ++ [L] := ⟨_, rfl⟩
            have HD2 : Hid (RDone S Ds2 i ∧ Ds2.length ≤ 100 * i + (k + 1) ∧ ∀ j, j < k + 1 → level (behind (xs.take j) S) ∈ Ds2) := by
              rw [hDs2]
              have h1 := HDO.out
              refine ⟨⟨nodup_snoc h1.1.nd hLm, fun R hR => ?_, fun j e hj he m hm => List.mem_append_left _ (h1.1.all j e hj he m hm)⟩, by have := h1.2.1; rw [List.length_append]; simp only [List.length_singleton]; omega, fun j hj => ?_⟩
              · rcases List.mem_append.1 hR with hR | hR
                · exact h1.1.sub R hR
                · rw [List.mem_singleton.1 hR]; exact HSUB.out
              · by_cases e : j = k
                · rw [e, HLE.out]; simp
                · exact List.mem_append_left _ (h1.2.2 j (by omega))
            clear hLm hix
            go_upto_region 12 with (go_at_call 31; refine HIN.out.mono ?_; rintro e w5 ⟨rfl, q, hq⟩; have HQ : Hid _ := hq; clear hq)
            have hbq : Below w3.heap.size w3 w5 := by rw [HQ.out]; exact belowN (Below.refl _ w3) q
            have HE5 : Hid (E ≤ w5.heap.size) := Nat.le_trans HE3.out hbq.size
            obtain ⟨vd, vc, hv8⟩ := HM3.out.row.form
            obtain ⟨vn, hvn⟩ : ∃ vn, L.length = vn := ⟨_, rfl⟩
            rw [hvn] at hv8
            subst hv8
            have HM5 : Hid (RMade E E w5 (.slice vd vn vc) L) := (HM3.out.below HE3.out hbq).mono HEr.out
            obtain ⟨xss, ho, hxl, hxe⟩ := (HA3.out.below HE3.out hbq).ex
            have HO5 : Hid (GOwn 65 1 E w5 u3 xss) := ho
            have HXE : Hid (xss.length = Ds.length ∧ ∀ (i : Nat) (R : List En), Ds[i]? = some R → ∃ u, xss[i]? = some [u] ∧ RMade E E w5 u R) := ⟨hxl, hxe⟩
            have HB5 : Hid (Below w1.heap.size w1 w5) := (HBr.out.trans (HB3.out.mono HBr.out.size)).trans (hbq.mono (Nat.le_trans HBr.out.size HB3.out.size))
            have HU5 : Hid (Und E w5 u6 (behind (xs.take k) S)) := (HU.out.below HEr.out HB3.out).below HE3.out hbq
            have hdl : xss.length < 1099511627776 := by have := HDO.out.2.1; omega
            clear ho hxl hxe hbq hvn c0r
            go_upto_region 13 with (at_builtin; refine append_g rtyRR (by rfl) _ _ [.slice vd vn vc] _ rfl E _ _ _ xss rfl HO5.out rfl rfl ⟨rfl, by simp [Value.oneCell']⟩ hdl HE5.out ?_; intro UOUT W hoW hbW hgW; have HOW : Hid (GOwn 65 1 E W UOUT (xss ++ [[.slice vd vn vc]])) := hoW; have HBEW : Hid _ := hbW; have HGW : Hid _ := hgW; clear hoW hbW hgW)
            have HEW : Hid (E ≤ W.heap.size) := Nat.le_trans HE5.out HBEW.out.size
            have hA5 : Below w5.heap.size w5 (w5.alloc (.cells [.slice vd vn vc].toArray 65)) := (Below.refl _ w5).alloc (Nat.le_refl _) _
            have hEA : Below E (w5.alloc (.cells [.slice vd vn vc].toArray 65)) W := by
              refine (Below.refl E _).grown HGW.out (by simp; have := HE5.out; omega) (fun j hj => (World.ownsRow.lt (HO5.out.below hA5).2 j hj).1)
            have hkp : ∀ {u : Value} {R : List En}, RMade E E w5 u R → RMade E E W u R := fun h => (h.below HE5.out hA5).kept (HO5.out.below hA5) (by decide) HGW.out hEA
            have HALL : Hid (AllOwn E E W UOUT Ds2) := by
              show AllOwn _ _ _ _ _
              rw [hDs2]
              refine ⟨_, HOW.out, by simp [HXE.out.1], fun j R hj => ?_⟩
              by_cases hjl : j < Ds.length
              · rw [List.getElem?_append_left hjl] at hj
                obtain ⟨u, h1, h2⟩ := HXE.out.2 j R hj
                exact ⟨u, by rw [List.getElem?_append_left (by have := HXE.out.1; omega)]; exact h1, hkp h2⟩
              · rw [List.getElem?_append_right (by omega)] at hj
                cases hj0 : j - Ds.length with
                | zero =>
                  rw [hj0] at hj
                  simp only [List.getElem?_cons_zero, Option.some.injEq] at hj
                  subst hj
                  exact ⟨_, by rw [List.getElem?_append_right (by have := HXE.out.1; omega), HXE.out.1, hj0]; rfl, hkp HM5.out⟩
                | succ m => rw [hj0] at hj; simp at hj
            have hbW1 : Below w1.heap.size w1 W := HB5.out.trans (by rw [← HE.out]; exact HBEW.out)
            have HBW : Hid (Below w1.heap.size w1 W) := hbW1
            have HUW : Hid (Und E W u6 (behind (xs.take k) S)) := (HU5.out.below HE5.out hA5).kept (HO5.out.below hA5) (by decide) HGW.out hEA
            clear hA5 hEA hkp hbW1 hDs2 hdl
            have t0 : W.cell? ⟨g4, o4 + i * 2, none⟩ = some (.slice xd nx xc) := (HBW.out.cell (p := ⟨g4, o4 + i * 2, none⟩) HG4.out).trans HC0.out
            by_cases hkx : k < nx
            · have hkxz : (k : Int) < (nx : Int) := by omega
              obtain ⟨c, hc⟩ : ∃ c, xs[k]? = some c := ⟨xs[k]'(by have := HNX.out; omega), List.getElem?_eq_getElem _⟩
              obtain ⟨gx, ox, exd, hzx, hxc⟩ := HXR.out.get (k := k) (by have := HNX.out; omega)
              subst exd
              have hcx : (xs.drop k).headD 0 = c := by rw [List.headD_eq_head?_getD, List.head?_drop, hc]; rfl
              rw [hcx] at hxc
              have t1 : W.cell? ⟨gx, ox + k, none⟩ = some (.int .i32 c) := (HBW.out.cell (p := ⟨gx, ox + k, none⟩) (lt_of_cell hxc)).trans hxc
              have HEU : Hid (behind (xs.take (k + 1)) S = after c (behind (xs.take k) S)) := behind_step hc S
              have HUND := refUnder_any E W u6 (behind (xs.take k) S) c (HUW.out.row HEW.out) HUS.out.1 HEW.out
              have HUNDH : Hid (Calls Tryd.prog 32 #[u6, .int .i32 c] W fun e w' => ∃ v', e = .returned v' ∧ RMade E W.heap.size w' v' (after c (behind (xs.take k) S)) ∧ Below W.heap.size W w') := HUND
              clear HUND hzx hxc hcx hc
              go_wp2_with (go_at_call 32; refine HUNDH.out.mono ?_; rintro e w9 ⟨v9, rfl, hM9, hb9⟩; have HM9 : Hid _ := hM9; have HB9 : Hid _ := hb9; clear hM9 hb9)
              have HU9 : Hid (Und E w9 v9 (behind (xs.take (k + 1)) S)) := by show Und _ _ _ _; rw [HEU.out]; exact ⟨.inr (HM9.out.mono HEW.out)⟩
              have HA9 : Hid (AllOwn E E w9 UOUT Ds2) := HALL.out.below HEW.out HB9.out
              have HB9w : Hid (Below w1.heap.size w1 w9) := HBW.out.trans (HB9.out.mono HBW.out.size)
              go_roundg (nx + 1 - (k + 1))
              case measure => omega
              case rel => exact ⟨k + 1, Ds2, by go_num, by omega, Nat.le_refl _, HA9, HD2, HB9w, HU9⟩
            · have hkxz : ¬ (k : Int) < (nx : Int) := by omega
              have HU9 : Hid (Und E W u6 (behind (xs.take (k + 1)) S)) := by
                show Und _ _ _ _
                have : xs.take (k + 1) = xs.take k := by rw [List.take_of_length_le (by have := HNX.out; omega), List.take_of_length_le (by have := HNX.out; omega)]
                rw [this]; exact HUW.out
              go_wp2
              go_roundg (nx + 1 - (k + 1))
              case measure => omega
              case rel => exact ⟨k + 1, Ds2, by go_num, by omega, Nat.le_refl _, HALL, HD2, HBW, HU9⟩
        · have hlekz : ¬ (k : Int) ≤ (nx : Int) := by omega
          have HD2 : Hid (RDone S Ds (i + 1) ∧ Ds.length ≤ 100 * (i + 1)) := by
            have h1 := HDO.out
            refine ⟨⟨h1.1.nd, h1.1.sub, fun j e hj he m hm => ?_⟩, by have := h1.2.1; omega⟩
            by_cases hji : j = i
            · subst hji
              rw [HXI.out.1] at he
              have e2 : e = x := (Option.some.inj he).symm
              rw [e2, HXI.out.2] at hm ⊢
              exact h1.2.2 m (by have := HNX.out; omega)
            · exact h1.1.all j e (by omega) he m hm
          go_wp2
          go_roundg (n - (i + 1))
          case measure => omega
          case rel => exact ⟨i + 1, Ds, by go_num, by omega, Nat.le_refl _, HA, HD2, HBr⟩
    · have hltz : ¬ (i : Int) < (n : Int) := by omega
      obtain ⟨oa, oc, ho⟩ := HA.out.shape
      subst ho
      have HFIN : Hid (Ds.Nodup ∧ (∀ R ∈ Ds, Sub S R) ∧ (∀ R, S ≠ [] → Sub S R → R ∈ Ds) ∧ Ds.length ≤ 100 * S.length ∧ Below w.heap.size w wr) := by
        refine ⟨HDO.out.1.nd, HDO.out.1.sub, fun R hne hs => ?_, by have := HDO.out.2; have := HNS.out; omega, HB1.out.trans (HBr.out.mono HB1.out.size)⟩
        obtain ⟨ys, m, hm, k, hk, rfl⟩ := sub_word hs HRI.out hne
        obtain ⟨j, hj⟩ := List.mem_iff_getElem?.1 hm
        exact HDO.out.1.all j _ (by have := (List.getElem?_eq_some_iff.1 hj).1; have := HNS.out; omega) hj k hk
      go_wp2
      go_ret
      exact ⟨oa, oc, Ds, rfl, HFIN.out⟩
end Go.Proofs.YtnfjgbfmkelalaaDoor

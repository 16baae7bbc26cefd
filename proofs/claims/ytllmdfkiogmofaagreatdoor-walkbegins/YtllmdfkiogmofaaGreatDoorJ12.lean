/- Texts that were written apart, joined. -/
import Derived.Test.YtllmdfkiogmofaaGreatDoorPkOrd
import Derived.Test.YtllmdfkiogmofaaGreatDoorJ10
import Derived.Test.YtllmdfkiogmofaaGreatDoorPkSort
/- formed: each state by itself. -/
namespace Go.Proofs.YtllmdfkiogmofaaGreatDoor
open Go.RowKit Nums Fm Pk
set_option maxRecDepth 100000

theorem Pk.form_at {m : List RSt} {k : Nat} {s : RSt} (h : m[k]? = some s) : formB k (m.drop k) = (formS s k && formB (k + 1) (m.drop (k + 1))) := by
  obtain ⟨hk, rfl⟩ := List.getElem?_eq_some_iff.1 h
  rw [List.drop_eq_getElem_cons hk, formB]
set_option maxHeartbeats 4000000 in
theorem formed_any (E : Nat) (w : World) (m : List RSt) (vs : Value) (h : StsAt E w vs m) (hE : E ≤ w.heap.size) (hT : Tabs w) :
    Calls Tryz.prog 48 #[vs] w fun e w' => e = .returned (.bool (formB 0 m)) ∧ Below w.heap.size w w' := by
  obtain ⟨ad, cap, rfl⟩ := h.shape
  obtain ⟨n, hn⟩ : ∃ n, m.length = n := ⟨_, rfl⟩
  have HN : Hid (m.length = n) := hn
  have HR : Hid (StsAt E w (.slice ad m.length cap) m) := h
  have hl := h.len
  rw [hn] at HR hl ⊢
  have HT : Hid (Tabs w) := hT
  clear h hn hT
  go_enter Tryz.func48, Tryz.ntmps48
  go_wp2
  go_loopg [3, 4, 7] n (fun gm _ _ s7 wr => ∃ (k : Nat), s7 = .int .i64 k ∧ k ≤ n ∧ n - k ≤ gm ∧ Hid (formB 0 m = formB k (m.drop k)) ∧ Hid (Below w.heap.size w wr))
  case atStart => exact ⟨0, rfl, Nat.zero_le _, by omega, rfl, Below.refl _ _⟩
  case round =>
    obtain ⟨k, rfl, hk, hgm, HO, HB⟩ := hrel
    by_cases hlt : k < n
    · have hltz : (k : Int) < (n : Int) := by omega
      obtain ⟨s, hs⟩ : ∃ s, m[k]? = some s := ⟨m[k]'(by have := HN.out; omega), List.getElem?_eq_getElem _⟩
      have hRw := HR.out.below (HB.out.mono hE)
      obtain ⟨g, off, va, rfl, hg, c0, c1, c2, hA⟩ := hRw.at hs
      obtain ⟨vd, vc, hva⟩ := hA.shape
      obtain ⟨na, hna⟩ : ∃ na, s.arcs.length = na := ⟨_, rfl⟩
      rw [hna] at hva
      subst hva
      have HFA : Hid (formB 0 m = (formS s k && formB (k + 1) (m.drop (k + 1)))) := HO.out.trans (form_at hs)
      obtain ⟨sb, hsb⟩ : ∃ sb, sb = wr.heap.size := ⟨_, rfl⟩
      obtain ⟨W1, hW1⟩ : ∃ W1, W1 = wr.alloc (.cells #[.bool s.final, .int .i64 s.out, .slice vd na vc] 61) := ⟨_, rfl⟩
      have hn1 : W1.heap[sb]? = some (.cells #[.bool s.final, .int .i64 s.out, .slice vd na vc] 61) := by rw [hW1, hsb]; exact alloc_newP _ _
      have hb1 : Below wr.heap.size wr W1 := by rw [hW1]; exact (Below.refl _ wr).alloc (Nat.le_refl _) _
      have HBW : Hid (Below w.heap.size w W1) := HB.out.trans (hb1.mono HB.out.size)
      have HAt : Hid (ArcsAt E W1 (.slice vd na vc) s.arcs) := hA.below (hb1.mono (Nat.le_trans hE HB.out.size))
      have HCL : Hid (∀ W, Below W1.heap.size W1 W → W.cell? ⟨sb, 0, none⟩ = some (.bool s.final) ∧ W.cell? ⟨sb, 1, none⟩ = some (.int .i64 s.out) ∧ W.cell? ⟨sb, 2, none⟩ = some (.slice vd na vc)) := fun W hW => by
        have h1 : W.heap[sb]? = W1.heap[sb]? := hW.block sb (Array.getElem?_eq_some_iff.1 hn1).1
        exact ⟨by simp [World.cell?, h1, hn1], by simp [World.cell?, h1, hn1], by simp [World.cell?, h1, hn1]⟩
      have HE1 : Hid (E ≤ W1.heap.size) := Nat.le_trans hE HBW.out.size
      have HPL : Hid (Calls Tryz.prog 76 #[.agg #[.bool s.final, .int .i64 s.out, .slice vd na vc]] W1 fun e w' => e = .returned (.int .i64 (leastS s)) ∧ Below W1.heap.size W1 w') := pleast_any E W1 s _ HAt.out HE1.out
      have HOR : Hid (∀ W, Below W1.heap.size W1 W → Calls Tryz.prog 77 #[.slice vd na vc, .int .i64 k] W fun e w' => e = .returned (.bool (ordB k none s.arcs)) ∧ Below W1.heap.size W1 w') := fun W hW => by
        refine (ordered_any E W s.arcs _ k (HAt.out.below (hW.mono HE1.out)) (Nat.le_trans HE1.out hW.size) (HT.out.below (HBW.out.trans (hW.mono HBW.out.size)))).mono ?_
        rintro e w' ⟨rfl, h2⟩
        exact ⟨rfl, hW.trans (h2.mono hW.size)⟩
      obtain ⟨a0, a1, a2⟩ := HCL.out W1 (Below.refl _ _)
      clear hs hRw hA hna hn1 hb1 HO
      go_upto_region 4 with fail
      rw [← hsb, ← hW1]
      clear hsb hW1 c0 c1 c2
      unfold formS at HFA
      generalize leastS s = L at *
      generalize ordB (k : Int) none s.arcs = O at *
      generalize s.arcs = arcs at *
      generalize s.final = fn at *
      generalize s.out = ot at *
      by_cases h1 : fn = false ∧ ¬ ot = 0
      · obtain ⟨rfl, h1⟩ := h1
        have HF : Hid (formB 0 m = false) := by show _ = _; rw [HFA.out, decide_eq_false h1]; rfl
        have h1b : (ot == 0) = false := beq_eq_false_iff_ne.2 h1
        have h1n : (ot != 0) = true := by simp [bne, h1b]
        go_wp2
        go_ret
        exact ⟨by rw [HF.out]; rfl, HBW.out⟩
      · have h1x : (fn || decide (ot = 0)) = true := by
          cases fn with
          | true => rfl
          | false => simp only [Bool.false_or, decide_eq_true_eq]; exact Decidable.byContradiction fun h => h1 ⟨rfl, h⟩
        rw [h1x] at HFA
        clear h1
        cases fn with
        | true =>
          clear h1x
          by_cases hL : L = 0
          · subst hL
            cases O with
            | false =>
              have HF : Hid (formB 0 m = false) := by show _ = _; rw [HFA.out]; simp
              clear HFA
              go_wp2_with (first
                | (go_at_call 76; refine HPL.out.mono ?_; rintro e w2 ⟨rfl, hb2⟩; have HB2 : Hid (Below W1.heap.size W1 w2) := hb2; clear hb2; obtain ⟨p0, p1, p2⟩ := HCL.out w2 HB2.out)
                | (go_at_call 77; refine (HOR.out _ HB2.out).mono ?_; rintro e w3 ⟨rfl, hb3⟩; have HB3 : Hid (Below W1.heap.size W1 w3) := hb3; clear hb3))
              go_ret
              exact ⟨by rw [HF.out]; rfl, HBW.out.trans (HB3.out.mono HBW.out.size)⟩
            | true =>
              have HF : Hid (formB 0 m = formB (k + 1) (m.drop (k + 1))) := by show _ = _; rw [HFA.out]; simp
              clear HFA
              go_wp2_with (first
                | (go_at_call 76; refine HPL.out.mono ?_; rintro e w2 ⟨rfl, hb2⟩; have HB2 : Hid (Below W1.heap.size W1 w2) := hb2; clear hb2; obtain ⟨p0, p1, p2⟩ := HCL.out w2 HB2.out)
                | (go_at_call 77; refine (HOR.out _ HB2.out).mono ?_; rintro e w3 ⟨rfl, hb3⟩; have HB3 : Hid (Below W1.heap.size W1 w3) := hb3; clear hb3))
              go_roundg (n - (k + 1))
              case measure => omega
              case rel => exact ⟨k + 1, by go_num, by omega, Nat.le_refl _, HF, HBW.out.trans (HB3.out.mono HBW.out.size)⟩
          · have HF : Hid (formB 0 m = false) := by show _ = _; rw [HFA.out, decide_eq_false hL]; simp
            have h1b : (L == 0) = false := beq_eq_false_iff_ne.2 hL
            have h1n : (L != 0) = true := by simp [bne, h1b]
            clear HFA
            go_wp2_with (first
              | (go_at_call 76; refine HPL.out.mono ?_; rintro e w2 ⟨rfl, hb2⟩; have HB2 : Hid (Below W1.heap.size W1 w2) := hb2; clear hb2; obtain ⟨p0, p1, p2⟩ := HCL.out w2 HB2.out)
              | (go_at_call 77; refine (HOR.out _ HB2.out).mono ?_; rintro e w3 ⟨rfl, hb3⟩; have HB3 : Hid (Below W1.heap.size W1 w3) := hb3; clear hb3))
            go_ret
            exact ⟨by rw [HF.out]; rfl, HBW.out.trans (HB2.out.mono HBW.out.size)⟩
        | false =>
          have h0 : ot = 0 := by simpa using h1x
          subst h0
          clear h1x
          by_cases hL : L = 0
          · subst hL
            cases O with
            | false =>
              have HF : Hid (formB 0 m = false) := by show _ = _; rw [HFA.out]; simp
              clear HFA
              go_wp2_with (first
                | (go_at_call 76; refine HPL.out.mono ?_; rintro e w2 ⟨rfl, hb2⟩; have HB2 : Hid (Below W1.heap.size W1 w2) := hb2; clear hb2; obtain ⟨p0, p1, p2⟩ := HCL.out w2 HB2.out)
                | (go_at_call 77; refine (HOR.out _ HB2.out).mono ?_; rintro e w3 ⟨rfl, hb3⟩; have HB3 : Hid (Below W1.heap.size W1 w3) := hb3; clear hb3))
              go_ret
              exact ⟨by rw [HF.out]; rfl, HBW.out.trans (HB3.out.mono HBW.out.size)⟩
            | true =>
              have HF : Hid (formB 0 m = formB (k + 1) (m.drop (k + 1))) := by show _ = _; rw [HFA.out]; simp
              clear HFA
              go_wp2_with (first
                | (go_at_call 76; refine HPL.out.mono ?_; rintro e w2 ⟨rfl, hb2⟩; have HB2 : Hid (Below W1.heap.size W1 w2) := hb2; clear hb2; obtain ⟨p0, p1, p2⟩ := HCL.out w2 HB2.out)
                | (go_at_call 77; refine (HOR.out _ HB2.out).mono ?_; rintro e w3 ⟨rfl, hb3⟩; have HB3 : Hid (Below W1.heap.size W1 w3) := hb3; clear hb3))
              go_roundg (n - (k + 1))
              case measure => omega
              case rel => exact ⟨k + 1, by go_num, by omega, Nat.le_refl _, HF, HBW.out.trans (HB3.out.mono HBW.out.size)⟩
          · have HF : Hid (formB 0 m = false) := by show _ = _; rw [HFA.out, decide_eq_false hL]; simp
            have h1b : (L == 0) = false := beq_eq_false_iff_ne.2 hL
            have h1n : (L != 0) = true := by simp [bne, h1b]
            clear HFA
            go_wp2_with (first
              | (go_at_call 76; refine HPL.out.mono ?_; rintro e w2 ⟨rfl, hb2⟩; have HB2 : Hid (Below W1.heap.size W1 w2) := hb2; clear hb2; obtain ⟨p0, p1, p2⟩ := HCL.out w2 HB2.out)
              | (go_at_call 77; refine (HOR.out _ HB2.out).mono ?_; rintro e w3 ⟨rfl, hb3⟩; have HB3 : Hid (Below W1.heap.size W1 w3) := hb3; clear hb3))
            go_ret
            exact ⟨by rw [HF.out]; rfl, HBW.out.trans (HB2.out.mono HBW.out.size)⟩
    · have hltz : ¬ (k : Int) < (n : Int) := by omega
      have HE : Hid (formB 0 m = true) := by
        show _ = _
        rw [HO.out, List.drop_of_length_le (by have := HN.out; omega)]
        rfl
      go_wp2
      go_ret
      exact ⟨by rw [HE.out]; rfl, HB.out⟩
end Go.Proofs.YtllmdfkiogmofaaGreatDoor

/- bounded: no word too long, too heavy, nor too many. -/
namespace Go.Proofs.YtllmdfkiogmofaaGreatDoor
open Go.RowKit Nums Fm Pk
set_option maxRecDepth 100000

namespace Pk
theorem minF_low : ∀ (l : List RArc) (x : Int), minF x l ≤ x ∧ ∀ a ∈ l, minF x l ≤ a.out
  | [], x => ⟨Int.le_refl _, fun a ha => by cases ha⟩
  | a :: r, x => by
    obtain ⟨h1, h2⟩ := minF_low r (min x a.out)
    rw [minF]
    refine ⟨by omega, fun y hy => ?_⟩
    rcases List.mem_cons.1 hy with rfl | hy
    · omega
    · exact h2 y hy
theorem ord_facts : ∀ (l : List RArc) (n : Int) (p : Option Int), ordB n p l = true → (∀ a ∈ l, 0 ≤ a.to ∧ a.to < n ∧ wordR a.label = true) ∧ (∀ q, p = some q → q + l.length ≤ 1114111 ∨ l = []) ∧ (l = [] ∨ (0 ≤ (l.head?.map (·.label)).getD 0 ∧ (l.head?.map (·.label)).getD 0 + l.length ≤ 1114112))
  | [], _, _, _ => ⟨fun a ha => (by cases ha), fun q _ => .inr rfl, .inl rfl⟩
  | a :: r, n, p, h => by
    rw [ordB] at h
    simp only [Bool.and_eq_true, decide_eq_true_eq, Bool.not_eq_true'] at h
    obtain ⟨⟨⟨h1, h2⟩, h3⟩, h4⟩ := h
    obtain ⟨g1, g2, g3⟩ := ord_facts r n (some a.label) h4
    have hw : 0 ≤ a.label ∧ a.label < 1114112 := by
      unfold wordR at h2
      simp only [Bool.and_eq_true] at h2
      have := of_decide_eq_true h2.1
      exact ⟨this.1, this.2.1⟩
    have hlen : a.label + r.length ≤ 1114111 := by
      rcases g2 a.label rfl with h | h
      · exact h
      · rw [h]; simp only [List.length_nil]; omega
    refine ⟨fun x hx => ?_, fun q hq => ?_, .inr ?_⟩
    · rcases List.mem_cons.1 hx with rfl | hx
      · exact ⟨h3.1, h3.2, h2⟩
      · exact g1 x hx
    · subst hq
      simp only [Option.any_some, decide_eq_false_iff_not] at h1
      simp only [List.length_cons]
      left
      omega
    · simp only [List.head?_cons, Option.map_some, Option.getD_some, List.length_cons]
      omega
theorem form_facts {s : RSt} {k : Nat} (h : formS s k = true) : (∀ a ∈ s.arcs, 0 ≤ a.to ∧ a.to < (k : Int) ∧ 0 ≤ a.out) ∧ 0 ≤ s.out ∧ s.arcs.length ≤ 1114112 := by
  unfold formS at h
  simp only [Bool.and_eq_true, decide_eq_true_eq] at h
  obtain ⟨⟨h1, h2⟩, h3⟩ := h
  obtain ⟨g1, _, g3⟩ := ord_facts _ _ _ h3
  unfold leastS at h2
  obtain ⟨l1, l2⟩ := minF_low s.arcs (if s.final then s.out else 9223372036854775807)
  refine ⟨fun a ha => ⟨(g1 a ha).1, (g1 a ha).2.1, by have := l2 a ha; omega⟩, ?_, ?_⟩
  · cases hf : s.final with
    | true => rw [hf, if_pos rfl] at l1 h2; omega
    | false => rw [hf] at h1; simp only [Bool.false_or, decide_eq_true_eq] at h1; omega
  · rcases g3 with h | h
    · rw [h]; decide
    · omega
theorem form_get : ∀ (m : List RSt) (i k : Nat) (s : RSt), formB i m = true → m[k]? = some s → formS s (i + k) = true
  | [], _, _, _, _, h => by simp at h
  | x :: r, i, 0, s, h, hk => by
    rw [formB, Bool.and_eq_true] at h
    simp only [List.getElem?_cons_zero, Option.some.injEq] at hk
    rw [← hk]
    exact h.1
  | x :: r, i, k + 1, s, h, hk => by
    rw [formB, Bool.and_eq_true] at h
    have := form_get r (i + 1) k s h.2 (by simpa using hk)
    rwa [show i + 1 + k = i + (k + 1) by omega] at this
theorem beh_nn {known : List Pk.Reach} (hk : ∀ r ∈ known, KnOk r) : ∀ (l : List RArc) (r : Pk.Reach), 0 ≤ r.arcs ∧ 0 ≤ r.words ∧ 0 ≤ r.weight → 0 ≤ (l.foldl (stepR known) r).arcs ∧ 0 ≤ (l.foldl (stepR known) r).words ∧ 0 ≤ (l.foldl (stepR known) r).weight
  | [], r, h => h
  | a :: l, r, h => by
    rw [List.foldl_cons]
    refine beh_nn hk l _ ?_
    have hw : 0 ≤ (known.getD a.to.toNat ⟨0, 0, 0⟩).words := by
      rw [List.getD_eq_getElem?_getD]
      cases hg : known[a.to.toNat]? with
      | none => exact Int.le_refl _
      | some T => exact (hk T (List.mem_of_getElem? hg)).w0
    unfold stepR
    simp only
    omega
theorem beh_ok {s : RSt} {known : List Pk.Reach} {base : Int} (hb : 1 ≤ base) (hk : ∀ r ∈ known, KnOk r) (h0 : 0 ≤ s.out) (h : okR base (behR s known) = true) : KnOk (behR s known) := by
  have h1 : 0 ≤ (behR s known).arcs ∧ 0 ≤ (behR s known).words ∧ 0 ≤ (behR s known).weight := by
    unfold behR
    refine beh_nn hk s.arcs _ ?_
    split
    · exact ⟨by simp, by simp, h0⟩
    · exact ⟨by simp, by simp, by simp⟩
  have h2 := of_decide_eq_true h
  exact ⟨h1.1, h2.1, h1.2.1, h2.2.1, h1.2.2, by omega⟩
theorem bnd_at {base : Int} {known : List Pk.Reach} {m : List RSt} {k : Nat} {s : RSt} (h : m[k]? = some s) : bndB base known (m.drop k) = (okR base (behR s known) && bndB base (known ++ [behR s known]) (m.drop (k + 1))) := by
  obtain ⟨hk, rfl⟩ := List.getElem?_eq_some_iff.1 h
  rw [List.drop_eq_getElem_cons hk, bndB]
end Pk
/-- While states are gone through. -/
structure BLoop (w wr : World) (base : Int) (m : List RSt) (mb : Nat) (vs vk : Value) (known : List Pk.Reach) (k : Nat) : Prop where
  bel : Below w.heap.size w wr
  row : GOwn 137 3 w.heap.size wr vk (known.map cellsR)
  len : known.length = k
  ok : ∀ r ∈ known, KnOk r
  eq : bndB base [] m = bndB base known (m.drop k)
  mac : wr.heap[mb]? = some (.cells #[.int .i64 base, vs] 26)
set_option maxHeartbeats 4000000 in
theorem bounded_any (E : Nat) (w : World) (base : Int) (m : List RSt) (vs : Value) (h : StsAt E w vs m) (hE : E ≤ w.heap.size) (hb1 : 1 ≤ base) (hb2 : base ≤ 1048576) (hF : formB 0 m = true) (hm : m.length ≤ 1048576) :
    Calls Tryz.prog 49 #[.agg #[.int .i64 base, vs]] w fun e w' => e = .returned (.bool (bndB base [] m)) ∧ Below w.heap.size w w' := by
  obtain ⟨ad, cap, rfl⟩ := h.shape
  obtain ⟨n, hn⟩ : ∃ n, m.length = n := ⟨_, rfl⟩
  have HN : Hid (m.length = n) := hn
  have HR : Hid (StsAt E w (.slice ad m.length cap) m) := h
  rw [hn] at HR hm ⊢
  clear h hn
  go_enter Tryz.func49, Tryz.ntmps49
  have HFM : Hid (formB 0 m = true) := hF
  obtain ⟨mb, hmb⟩ : ∃ mb, mb = w.heap.size := ⟨_, rfl⟩
  obtain ⟨W0, hW0⟩ : ∃ W0, W0 = w.alloc (.cells #[.int .i64 base, .slice ad n cap] 26) := ⟨_, rfl⟩
  have HS0 : Hid (BLoop w W0 base m mb (.slice ad n cap) (.slice none 0 0) [] 0) := ⟨by rw [hW0]; exact (Below.refl _ w).alloc (Nat.le_refl _) _, GOwn.nil _ _ _ _, rfl, fun r hr => (by cases hr), rfl, by rw [hW0, hmb]; exact alloc_newP _ _⟩
  have HMB : Hid (mb = w.heap.size) := hmb
  clear hF
  go_wp2
  rw [← hW0, ← hmb]
  clear hW0 hmb
  go_loopg [3, 5, 6, 10] n (fun gm s3 _ _ s10 wr => ∃ (k : Nat) (known : List Pk.Reach) (kd : Option Addr) (kc : Nat), s10 = .int .i64 k ∧ k ≤ n ∧ n - k ≤ gm ∧ s3 = .slice kd k kc ∧ Hid (BLoop w wr base m mb (.slice ad n cap) (.slice kd k kc) known k))
  case atStart => exact ⟨0, [], none, 0, rfl, Nat.zero_le _, by omega, rfl, HS0⟩
  case round =>
    obtain ⟨k, known, kd, kc, rfl, hk, hgm, rfl, HL⟩ := hrel
    by_cases hlt : k < n
    · have hltz : (k : Int) < (n : Int) := by omega
      obtain ⟨s, hs⟩ : ∃ s, m[k]? = some s := ⟨m[k]'(by have := HN.out; omega), List.getElem?_eq_getElem _⟩
      obtain ⟨g, off, va, rfl, hg, c0, c1, c2, hA⟩ := (HR.out.below (HL.out.bel.mono hE)).at hs
      obtain ⟨vd, vc, hva⟩ := hA.shape
      obtain ⟨na, hna⟩ : ∃ na, s.arcs.length = na := ⟨_, rfl⟩
      rw [hna] at hva
      subst hva
      have hFS := form_get m 0 k s HFM.out hs
      rw [Nat.zero_add] at hFS
      obtain ⟨q1, q2, q3⟩ := form_facts hFS
      have hEq : bndB base [] m = (okR base (behR s known) && bndB base (known ++ [behR s known]) (m.drop (k + 1))) := HL.out.eq.trans (bnd_at hs)
      have hso := HR.out.ok s (List.mem_of_getElem? hs)
      obtain ⟨W1, hW1⟩ : ∃ W1, W1 = wr.alloc (.cells #[.bool s.final, .int .i64 s.out, .slice vd na vc] 61) := ⟨_, rfl⟩
      obtain ⟨sb, hsb⟩ : ∃ sb, sb = wr.heap.size := ⟨_, rfl⟩
      have hn1 : W1.heap[sb]? = some (.cells #[.bool s.final, .int .i64 s.out, .slice vd na vc] 61) := by rw [hW1, hsb]; exact alloc_newP _ _
      have a0 : W1.cell? ⟨sb, 0, none⟩ = some (.bool s.final) := by simp [World.cell?, hn1]
      have a1 : W1.cell? ⟨sb, 1, none⟩ = some (.int .i64 s.out) := by simp [World.cell?, hn1]
      have a2 : W1.cell? ⟨sb, 2, none⟩ = some (.slice vd na vc) := by simp [World.cell?, hn1]
      have hb1' : Below wr.heap.size wr W1 := by rw [hW1]; exact (Below.refl _ wr).alloc (Nat.le_refl _) _
      have HB1 : Hid (Below wr.heap.size wr W1) := hb1'
      have hEw : E ≤ wr.heap.size := Nat.le_trans hE HL.out.bel.size
      have hA1 := hA.below (hb1'.mono hEw)
      have hK1 : GRow W1.heap.size 3 W1 (.slice kd k kc) (known.map cellsR) := (HL.out.row.below hb1').reads
      have HBH : Hid (Calls Tryz.prog 78 #[.agg #[.bool s.final, .int .i64 s.out, .slice vd na vc], .slice kd k kc] W1 fun e w' => e = .returned (.agg #[.int .i64 (behR s known).arcs, .int .i64 (behR s known).words, .int .i64 (behR s known).weight]) ∧ Below W1.heap.size W1 w') :=
        behind_any W1.heap.size W1 s _ _ known ⟨hA1.row.mono (Nat.le_trans hEw hb1'.size), hA1.ok, hA1.len⟩ hK1 (Nat.le_refl _) (fun a ha => by have := q1 a ha; rw [HL.out.len]; exact this) HL.out.ok q3 hso.2 q2
      have HKO : Hid (okR base (behR s known) = true → KnOk (behR s known)) := beh_ok hb1 HL.out.ok q2
      have HEQ : Hid (bndB base [] m = (okR base (behR s known) && bndB base (known ++ [behR s known]) (m.drop (k + 1)))) := hEq
      clear hs hA hFS q1 q2 q3 hEq hso hb1' hA1 hK1 hna HS0
      generalize behR s known = R at *
      clear hn1
      go_upto_region 5 with fail
      rw [← hW1, ← hsb]
      clear hW1 hsb c0 c1 c2
      go_upto_region 6 with (go_at_call 78; refine HBH.out.mono ?_; rintro e w2 ⟨rfl, hb2'⟩; have HB2 : Hid (Below W1.heap.size W1 w2) := hb2'; clear hb2')
      obtain ⟨rb, hrb⟩ : ∃ rb, rb = w2.heap.size := ⟨_, rfl⟩
      obtain ⟨w3, hw3⟩ : ∃ w3, w3 = w2.alloc (.cells #[.int .i64 R.arcs, .int .i64 R.words, .int .i64 R.weight] 137) := ⟨_, rfl⟩
      have hb3 : Below w2.heap.size w2 w3 := by rw [hw3]; exact (Below.refl _ w2).alloc (Nat.le_refl _) _
      have hr3 : RcBlk rb R w3 := ⟨by rw [hw3, hrb]; exact alloc_newP _ _⟩
      have hb03 : Below wr.heap.size wr w3 := HB1.out.trans ((HB2.out.trans (hb3.mono HB2.out.size)).mono HB1.out.size)
      have hmac : w3.heap[mb]? = some (.cells #[.int .i64 base, .slice (some ⟨g, off, none⟩) n cap] 26) := (hb03.block mb (Array.getElem?_eq_some_iff.1 HL.out.mac).1).trans HL.out.mac
      have HBW : Hid (Below w.heap.size w w3) := HL.out.bel.trans (hb03.mono HL.out.bel.size)
      have HOW : Hid (GOwn 137 3 w.heap.size w3 (.slice kd k kc) (known.map cellsR)) := HL.out.row.below hb03
      have HMAC : Hid (w3.heap[mb]? = some (.cells #[.int .i64 base, .slice (some ⟨g, off, none⟩) n cap] 26)) := hmac
      have hm0 : w3.cell? ⟨mb, 0, none⟩ = some (.int .i64 base) := by simp [World.cell?, hmac]
      obtain ⟨r0, r1, r2, _⟩ := hr3.facts
      rw [← hrb, ← hw3]
      clear a0 a1 a2 hrb hw3 hb3 hr3 hb03 hmac
      by_cases hA : 24 < R.arcs
      · have HF : Hid (bndB base [] m = false) := by show _ = _; rw [HEQ.out, okR, decide_eq_false (by omega)]; rfl
        clear HEQ HKO
        go_wp2
        go_ret
        exact ⟨by rw [HF.out]; rfl, HBW.out⟩
      · by_cases hW : 4096 < R.words
        · have HF : Hid (bndB base [] m = false) := by show _ = _; rw [HEQ.out, okR, decide_eq_false (by omega)]; rfl
          clear HEQ HKO
          go_wp2
          go_ret
          exact ⟨by rw [HF.out]; rfl, HBW.out⟩
        · by_cases hG : 1048576 - base < R.weight
          · have HF : Hid (bndB base [] m = false) := by show _ = _; rw [HEQ.out, okR, decide_eq_false (by omega)]; rfl
            clear HEQ HKO
            go_wp2
            go_ret
            exact ⟨by rw [HF.out]; rfl, HBW.out⟩
          · have hok : okR base R = true := by rw [okR, decide_eq_true (by omega)]
            have HF : Hid (bndB base [] m = bndB base (known ++ [R]) (m.drop (k + 1))) := by show _ = _; rw [HEQ.out, hok]; rfl
            have HKR : Hid (KnOk R) := HKO.out hok
            have HLN : Hid ((known.map cellsR).length < 1099511627776) := by show _ < _; rw [List.length_map, HL.out.len]; omega
            have HBS : Hid (w.heap.size ≤ w3.heap.size) := HBW.out.size
            clear HEQ HKO hok
            go_wp2_with (at_builtin; refine append_g rtyRc (by rfl) _ _ [.int .i64 R.arcs, .int .i64 R.words, .int .i64 R.weight] _ rfl w.heap.size _ _ _ _ rfl HOW.out rfl rfl (cellsR_ok R) HLN.out HBS.out ?_; intro v5 w5 ho5 hb5 hg5; obtain ⟨d5, e5, hv5, _⟩ := ho5.shape; rw [List.length_append, List.length_map, HL.out.len] at hv5; simp only [List.length_singleton] at hv5; subst hv5; have HO5 : Hid _ := ho5; have HB5 : Hid _ := hb5; have HG5 : Hid _ := hg5; clear ho5 hb5 hg5)
            have HNX : Hid (BLoop w w5 base m mb (.slice (some ⟨g, off, none⟩) n cap) (.slice d5 (k + 1) e5) (known ++ [R]) (k + 1)) := by
              refine ⟨HBW.out.trans (HB5.out.mono (Nat.le_refl _)), ?_, by rw [List.length_append, HL.out.len]; rfl, fun r hr => ?_, HF.out, ?_⟩
              · rw [List.map_append]
                exact HO5.out
              · rcases List.mem_append.1 hr with h | h
                · exact HL.out.ok r h
                · rw [List.mem_singleton.1 h]
                  exact HKR.out
              · have hlt3 := (Array.getElem?_eq_some_iff.1 HMAC.out).1
                refine (HG5.out.block mb (by simp; omega) (fun e => ?_)).trans (((MapKept.heap_alloc _ _).2 mb hlt3).trans HMAC.out)
                obtain ⟨_, cur, hc⟩ := GOwn.block HOW.out e.symm
                rw [HMAC.out] at hc
                simp only [Option.some.injEq, Obj.cells.injEq] at hc
                exact absurd hc.2.1 (by decide)
            go_roundg (n - (k + 1))
            case measure => omega
            case rel => exact ⟨k + 1, _, _, _, by go_num, by omega, Nat.le_refl _, rfl, HNX⟩
    · have hltz : ¬ (k : Int) < (n : Int) := by omega
      have HE : Hid (bndB base [] m = true) := by
        show _ = _
        rw [HL.out.eq, List.drop_of_length_le (by have := HN.out; omega)]
        rfl
      go_wp2
      go_ret
      exact ⟨by rw [HE.out]; rfl, HL.out.bel⟩
end Go.Proofs.YtllmdfkiogmofaaGreatDoor

/- unlike: no two states alike. -/
namespace Go.Proofs.YtllmdfkiogmofaaGreatDoor
open Go.RowKit Nums Fm Pk
set_option maxRecDepth 100000

/-- Two states of the row, as the region reads them. -/
structure SU (g k : Nat) (s t : RSt) (va vb : Value) (w0 w : World) : Prop where
  a0 : w.cell? ⟨g, k * 3, none⟩ = some (.bool s.final)
  a1 : w.cell? ⟨g, k * 3 + 1, none⟩ = some (.int .i64 s.out)
  a2 : w.cell? ⟨g, k * 3 + 2, none⟩ = some va
  b0 : w.cell? ⟨g, (k + 1) * 3, none⟩ = some (.bool t.final)
  b1 : w.cell? ⟨g, (k + 1) * 3 + 1, none⟩ = some (.int .i64 t.out)
  b2 : w.cell? ⟨g, (k + 1) * 3 + 2, none⟩ = some vb
  gr : Gr w0 w
theorem SU.facts {g k : Nat} {s t : RSt} {va vb : Value} {w0 w : World} (h : SU g k s t va vb w0 w) : w.cell? ⟨g, k * 3, none⟩ = some (.bool s.final) ∧ w.cell? ⟨g, k * 3 + 1, none⟩ = some (.int .i64 s.out) ∧ w.cell? ⟨g, k * 3 + 2, none⟩ = some va ∧ w.cell? ⟨g, (k + 1) * 3, none⟩ = some (.bool t.final) ∧ w.cell? ⟨g, (k + 1) * 3 + 1, none⟩ = some (.int .i64 t.out) ∧ w.cell? ⟨g, (k + 1) * 3 + 2, none⟩ = some vb := ⟨h.a0, h.a1, h.a2, h.b0, h.b1, h.b2⟩
theorem SU.grow {g k : Nat} {s t : RSt} {va vb : Value} {w0 w w' : World} (h : SU g k s t va vb w0 w) (hg : g < w0.heap.size) (hr : Gr w w') : SU g k s t va vb w0 w' := by
  have e : ∀ j, w'.cell? ⟨g, j, none⟩ = w.cell? ⟨g, j, none⟩ := fun j => hr.bel.cell (p := ⟨g, j, none⟩) (Nat.lt_of_lt_of_le hg h.gr.bel.size)
  exact ⟨(e _).trans h.a0, (e _).trans h.a1, (e _).trans h.a2, (e _).trans h.b0, (e _).trans h.b1, (e _).trans h.b2, h.gr.trans hr⟩
set_option maxHeartbeats 4000000 in
theorem unlike_any (E : Nat) (w : World) (m : List RSt) (vs : Value) (h : StsAt E w vs m) (hE : E ≤ w.heap.size) (hF : formB 0 m = true) (hm : m.length ≤ 1048576) (h0 : m ≠ []) :
    Calls Tryz.prog 51 #[vs] w fun e w' => e = .returned (.bool (decide m.Nodup)) ∧ Below w.heap.size w w' := by
  obtain ⟨xss, hR, hxl, hx⟩ := h.ex
  have hX : StX E w xss m := ⟨hxl, hx, fun s hs => by
    obtain ⟨i, hi, rfl⟩ := List.getElem_of_mem hs
    have := form_get m 0 i _ hF (List.getElem?_eq_getElem hi)
    exact (form_facts this).2.2⟩
  obtain ⟨ad, cap, rfl⟩ := h.shape
  have hpos := List.length_pos_iff.2 h0
  obtain ⟨n, hn⟩ : ∃ n, m.length = n + 1 := ⟨m.length - 1, by omega⟩
  have HN : Hid (m.length = n + 1) := hn
  have HX : Hid (StX E w xss m) := hX
  have HCL : Hid (Calls Tryz.prog 80 #[.slice ad (n + 1) cap] w fun e w' => ∃ g cap, e = .returned (.slice (some ⟨g, 0, none⟩) (n + 1) cap) ∧ GOwn 61 3 w.heap.size w' (.slice (some ⟨g, 0, none⟩) (n + 1) cap) xss ∧ Below w.heap.size w w') := by
    have := cloneS_any E w xss m _ hR hX h0 hm
    rw [hn] at this
    exact this
  have HSO : Hid (∀ w1 g cap, GOwn 61 3 w.heap.size w1 (.slice (some ⟨g, 0, none⟩) (n + 1) cap) xss → Below w.heap.size w w1 → Calls Tryz.prog 81 #[.slice (some ⟨g, 0, none⟩) (n + 1) cap, .func (.func 82) #[] #[]] w1 fun e w' => e = .returned (.tuple #[]) ∧ ∃ d : Array Nat, d.size = m.length ∧ d.toList.Perm (List.range m.length) ∧ Go.Sort.SortedIn (ltOf (cfS m)) 0 m.length d ∧ Go.Sort.HoldsK (encS xss) 3 w' g 0 d ∧ Below w.heap.size w1 w') := fun w1 g cap ho hb => by
    have := sortS_any E w.heap.size w1 xss m g cap (by rw [hn]; exact ho) (hX.below (hb.mono hE)) hE hb.size h0 hm
    rw [hn] at this ⊢
    exact this
  rw [hn] at hm ⊢
  clear h hR hxl hx hX hn hF
  go_enter Tryz.func51, Tryz.ntmps51
  go_upto_region 2 with (go_at_call 80; refine HCL.out.mono ?_; rintro e w1 ⟨g, gc, rfl, ho1, hb1⟩; have HO1 : Hid (GOwn 61 3 w.heap.size w1 (.slice (some ⟨g, 0, none⟩) (n + 1) gc) xss) := ho1; have HB1 : Hid (Below w.heap.size w w1) := hb1; clear ho1 hb1)
  go_upto_region 3 with (go_at_call 81; refine (HSO.out w1 g gc HO1.out HB1.out).mono ?_; rintro e w2 ⟨rfl, d, hd1, hd2, hd3, hd4, hb2⟩)
  have hgc : n + 1 ≤ gc := by
    obtain ⟨_, c', e, hc⟩ := HO1.out.shape
    simp only [Value.slice.injEq] at e
    omega
  have hgw : g < w2.heap.size := Nat.lt_of_lt_of_le (HO1.out.lt (g := g) rfl) hb2.size
  have HBW : Hid (Below w.heap.size w w2) := HB1.out.trans (hb2.mono (Nat.le_refl _))
  have HD : Hid (d.size = m.length ∧ d.toList.Perm (List.range m.length) ∧ Go.Sort.SortedIn (ltOf (cfS m)) 0 m.length d ∧ Go.Sort.HoldsK (encS xss) 3 w2 g 0 d) := ⟨hd1, hd2, hd3, hd4⟩
  have HX2 : Hid (StX E w2 xss m) := HX.out.below (HBW.out.mono hE)
  have hgcz : ((n : Int) + 1) ≤ (gc : Int) := by omega
  clear hd1 hd2 hd3 hd4 hb2
  go_wp2
  all_goals
    go_loopg [4, 12] n (fun gm _ s12 wr => ∃ (k : Nat), s12 = .int .i64 k ∧ k ≤ n ∧ n - k ≤ gm ∧ Hid (∀ i, i < k → cfS m d[i]! d[i + 1]! ≠ 0) ∧ Hid (Gr w2 wr))
    case atStart => exact ⟨0, rfl, Nat.zero_le _, by omega, fun i hi => absurd hi (Nat.not_lt_zero _), Gr.refl _⟩
    case round =>
      obtain ⟨k, rfl, hk, hgm, HA, HG⟩ := hrel
      by_cases hlt : k < n
      · have hltz : (k : Int) < (n : Int) := by omega
        have hn1 := HN.out
        have hds := HD.out.1
        obtain ⟨va, ea, haa, hla, _⟩ := encS_get HX2.out d[k]!
        obtain ⟨vb, eb, hbb, hlb, _⟩ := encS_get HX2.out d[k + 1]!
        obtain ⟨s, hs⟩ : ∃ s, m.getD d[k]! zS = s := ⟨_, rfl⟩
        obtain ⟨t, ht⟩ : ∃ t, m.getD d[k + 1]! zS = t := ⟨_, rfl⟩
        rw [hs] at ea haa hla
        rw [ht] at eb hbb hlb
        have hcell : ∀ (i c : Nat), i < d.size → c < 3 → wr.cell? ⟨g, i * 3 + c, none⟩ = some (encS xss d[i]!)[c]! := fun i c hi hc => by
          have := (HD.out.2.2.2.cell hi hc).1
          rw [Nat.zero_add] at this
          exact (HG.out.bel.cell (p := ⟨g, i * 3 + c, none⟩) hgw).trans this
        have hS : SU g k s t va vb w2 wr := by
          have a0 := hcell k 0 (by omega) (by omega)
          have a1 := hcell k 1 (by omega) (by omega)
          have a2 := hcell k 2 (by omega) (by omega)
          have b0 := hcell (k + 1) 0 (by omega) (by omega)
          have b1 := hcell (k + 1) 1 (by omega) (by omega)
          have b2 := hcell (k + 1) 2 (by omega) (by omega)
          rw [ea] at a0 a1 a2
          rw [eb] at b0 b1 b2
          exact ⟨a0, a1, a2, b0, b1, b2, HG.out⟩
        obtain ⟨vd, vc, hva⟩ := haa.shape
        obtain ⟨ud, uc, hvb⟩ := hbb.shape
        obtain ⟨na, hna⟩ : ∃ na, s.arcs.length = na := ⟨_, rfl⟩
        obtain ⟨nb, hnb⟩ : ∃ nb, t.arcs.length = nb := ⟨_, rfl⟩
        rw [hna] at hva
        rw [hnb] at hvb
        subst hva
        subst hvb
        have hS0 := hS.grow hgw ((Gr.refl wr).drew)
        have hE2 : E ≤ w2.heap.size := Nat.le_trans hE HBW.out.size
        have hbd : Below E w2 wr.drew := (HG.out.drew).bel.mono hE2
        have HCS : Hid (Calls Tryz.prog 82 #[.agg #[.bool s.final, .int .i64 s.out, .slice vd na vc], .agg #[.bool t.final, .int .i64 t.out, .slice ud nb uc]] wr.drew fun e w' => e = .returned (.int .i64 (cfS m d[k]! d[k + 1]!)) ∧ Gr wr.drew w') := by
          have := compareStates_any E s t _ _ wr.drew (haa.below hbd) (hbb.below hbd) (Nat.le_trans hE2 hbd.size) hla hlb
          unfold cfS
          rw [hs, ht]
          exact this
        have HS0 : Hid (SU g k s t (.slice vd na vc) (.slice ud nb uc) w2 wr.drew) := hS0
        have HK1 : Hid (cfS m d[k]! d[k + 1]! = 0 → ¬ m.Nodup) := fun h => dup_adj hds HD.out.2.1 (by omega) h
        have HK2 : Hid (cfS m d[k]! d[k + 1]! ≠ 0 → ∀ i, i < k + 1 → cfS m d[i]! d[i + 1]! ≠ 0) := fun h i hi => by
          by_cases hik : i = k
          · rw [hik]; exact h
          · exact HA.out i (by omega)
        have hk1 : IntKind.i64.wrap ((k : Int) + 1) = (k : Int) + 1 := by rw [IntKind.wrap_i64]; omega
        have hk2 : (k : Int) + 1 < (n : Int) + 1 := by omega
        have hk3 : (0 : Int) ≤ (k : Int) + 1 := by omega
        have hk4 : ((k : Int) + 1).toNat = k + 1 := by omega
        have hk5 : (k : Int) < (n : Int) + 1 := by omega
        clear hs ht hcell hS ea eb haa hbb hna hnb hds hn1
        generalize cfS m d[k]! d[k + 1]! = c at HCS HK1 HK2
        go_upto_region 6 with fail
        refine region_at (S := SU g k s t (.slice vd na vc) (.slice ud nb uc) w2) 11 rfl mixedP hS0 (fun _ => ?_)
        refine take_at (i := 0) 15 rfl rfl (by kernel_rfl) (by kernel_rfl) (by kernel_rfl) (fun _ _ _ h => h) (by rfl) (fun w hSw => by (have hSw2 := SU.facts hSw; clear hSw; go_simp; first | done | exact rfl)) (by assumption) ?_
        simp only [List.setIfInBounds_toArray, List.set_cons_zero, List.set_cons_succ]
        refine take_at (i := 1) 16 rfl rfl (by kernel_rfl) (by kernel_rfl) (by kernel_rfl) (fun _ _ _ h => h) (by rfl) (fun w hSw => by (have hSw2 := SU.facts hSw; clear hSw; go_simp; first | done | exact rfl)) (by assumption) ?_
        simp only [List.setIfInBounds_toArray, List.set_cons_zero, List.set_cons_succ]
        refine take_at (i := 2) 17 rfl rfl (by kernel_rfl) (by kernel_rfl) (by kernel_rfl) (fun _ _ _ h => h) (by rfl) (fun w hSw => by (have hSw2 := SU.facts hSw; clear hSw; go_simp; first | done | exact rfl)) (by assumption) ?_
        simp only [List.setIfInBounds_toArray, List.set_cons_zero, List.set_cons_succ]
        refine take_at (i := 3) 18 rfl rfl (by kernel_rfl) (by kernel_rfl) (by kernel_rfl) (fun _ _ _ h => h) (by rfl) (fun w hSw => by (have hSw2 := SU.facts hSw; clear hSw; go_simp; first | done | exact rfl)) (by assumption) ?_
        simp only [List.setIfInBounds_toArray, List.set_cons_zero, List.set_cons_succ]
        refine take_at (i := 4) 19 rfl rfl (by kernel_rfl) (by kernel_rfl) (by kernel_rfl) (fun _ _ _ h => h) (by rfl) (fun w hSw => by (have hSw2 := SU.facts hSw; clear hSw; go_simp; first | done | exact rfl)) (by assumption) ?_
        simp only [List.setIfInBounds_toArray, List.set_cons_zero, List.set_cons_succ]
        refine take_at (i := 5) 20 rfl rfl (by kernel_rfl) (by kernel_rfl) (by kernel_rfl) (fun _ _ _ h => h) (by rfl) (fun w hSw => by (have hSw2 := SU.facts hSw; clear hSw; go_simp; first | done | exact rfl)) (by assumption) ?_
        simp only [List.setIfInBounds_toArray, List.set_cons_zero, List.set_cons_succ]
        refine take_at (i := 6) (v := .int .i64 ((k : Int) + 1)) 21 rfl rfl (by kernel_rfl) (by kernel_rfl) (by kernel_rfl) (fun _ _ _ h => h) (by rfl) (fun w hSw => by (have hSw2 := SU.facts hSw; clear hSw; go_simp; first | done | exact rfl | simp_all | (simp; omega))) (by assumption) ?_
        simp only [List.setIfInBounds_toArray, List.set_cons_zero, List.set_cons_succ]
        refine take_at (i := 7) 22 rfl rfl (by kernel_rfl) (by kernel_rfl) (by kernel_rfl) (fun _ _ _ h => h) (by rfl) (fun w hSw => by (have hSw2 := SU.facts hSw; clear hSw; go_simp; first | done | exact rfl)) (by assumption) ?_
        simp only [List.setIfInBounds_toArray, List.set_cons_zero, List.set_cons_succ]
        refine take_at (i := 8) 23 rfl rfl (by kernel_rfl) (by kernel_rfl) (by kernel_rfl) (fun _ _ _ h => h) (by rfl) (fun w hSw => by (have hSw2 := SU.facts hSw; clear hSw; go_simp; first | done | exact rfl)) (by assumption) ?_
        simp only [List.setIfInBounds_toArray, List.set_cons_zero, List.set_cons_succ]
        refine one_call (i := 9) (w0 := wr.drew) 24 82 #[.agg #[.bool s.final, .int .i64 s.out, .slice vd na vc], .agg #[.bool t.final, .int .i64 t.out, .slice ud nb uc]] (by kernel_rfl) rfl rfl (by rfl) (by kernel_rfl) ?_
        refine HCS.out.mono ?_
        rintro e w3 ⟨rfl, hg3⟩
        have hS3 := HS0.out.grow hgw hg3
        have HG3 : Hid (Gr w2 w3) := hS3.gr
        refine ⟨_, rfl, hS3, fun _ => ?_⟩
        simp only [List.setIfInBounds_toArray, List.set_cons_zero, List.set_cons_succ]
        by_cases hc : c = 0
        · subst hc
          have HF : Hid (decide m.Nodup = false) := decide_eq_false (HK1.out rfl)
          refine take_at (i := 10) (v := .bool true) 25 rfl rfl (by kernel_rfl) (by kernel_rfl) (by kernel_rfl) (fun _ _ _ h => h) (by rfl) (fun w hSw => by (have hSw2 := SU.facts hSw; clear hSw; go_simp; first | done | exact rfl | simp_all | (simp; omega))) (by assumption) ?_
          simp only [List.setIfInBounds_toArray, List.set_cons_zero, List.set_cons_succ]
          refine wpAnyH_done (by kernel_rfl) ?_ _
          go_wp2
          go_ret
          exact ⟨by rw [HF.out]; rfl, HBW.out.trans (HG3.out.bel.mono HBW.out.size)⟩
        · have HF : Hid (∀ i, i < k + 1 → cfS m d[i]! d[i + 1]! ≠ 0) := HK2.out hc
          have h1b : (c == 0) = false := beq_eq_false_iff_ne.2 hc
          refine take_at (i := 10) (v := .bool false) 25 rfl rfl (by kernel_rfl) (by kernel_rfl) (by kernel_rfl) (fun _ _ _ h => h) (by rfl) (fun w hSw => by (have hSw2 := SU.facts hSw; clear hSw; go_simp; first | done | exact rfl | simp_all | (simp; omega))) (by assumption) ?_
          simp only [List.setIfInBounds_toArray, List.set_cons_zero, List.set_cons_succ]
          refine wpAnyH_done (by kernel_rfl) ?_ _
          go_wp2
          go_roundg (n - (k + 1))
          case measure => omega
          case rel => exact ⟨k + 1, by go_num, by omega, Nat.le_refl _, HF, HG3⟩
      · have hltz : ¬ (k : Int) < (n : Int) := by omega
        have hkn : k = n := by omega
        have HF : Hid (decide m.Nodup = true) := by
          refine decide_eq_true (nodup_adj HD.out.1 HD.out.2.1 HD.out.2.2.1 fun i hi => ?_)
          have := HN.out
          exact HA.out i (by omega)
        go_wp2
        go_ret
        exact ⟨by rw [HF.out]; rfl, HBW.out.trans (HG.out.bel.mono HBW.out.size)⟩
end Go.Proofs.YtllmdfkiogmofaaGreatDoor

/- Texts that were written apart, joined. -/
import Derived.Test.YtllmdfkiogmofaaGreatDoorJ9
import Derived.Test.YtllmdfkiogmofaaGreatDoorJ8
import Derived.Test.YtllmdfkiogmofaaGreatDoorJ7
/- least, ofWords: of a state, of a rune. -/
namespace Go.Proofs.YtllmdfkiogmofaaGreatDoor
open Go.RowKit Nums Fm Pk
set_option maxRecDepth 100000

theorem minF_snoc {l : List RArc} {k : Nat} {a : RArc} (h : l[k]? = some a) (m : Int) : minF m (l.take (k + 1)) = min (minF m (l.take k)) a.out := by
  have : ∀ (x : List RArc) (m : Int), minF m (x ++ [a]) = min (minF m x) a.out := fun x => by
    induction x with
    | nil => intro m; rfl
    | cons y r ih => intro m; exact ih _
  rw [List.take_add_one, h]
  exact this _ _
set_option maxHeartbeats 1000000 in
theorem pleast_any (E : Nat) (w : World) (s : RSt) (va : Value) (h : ArcsAt E w va s.arcs) (hE : E ≤ w.heap.size) :
    Calls Tryz.prog 76 #[.agg #[.bool s.final, .int .i64 s.out, va]] w fun e w' => e = .returned (.int .i64 (leastS s)) ∧ Below w.heap.size w w' := by
  obtain ⟨ad, cap, rfl⟩ := h.shape
  obtain ⟨n, hn⟩ : ∃ n, s.arcs.length = n := ⟨_, rfl⟩
  have HN : Hid (s.arcs.length = n) := hn
  have HR : Hid (ArcsAt E w (.slice ad s.arcs.length cap) s.arcs) := h
  have hl := h.len
  rw [hn] at HR hl ⊢
  clear h hn
  obtain ⟨M, hM⟩ : ∃ M : Int, M = if s.final then s.out else 9223372036854775807 := ⟨_, rfl⟩
  have HM : Hid (minF M s.arcs = leastS s) := by show _ = _; rw [hM]; rfl
  cases hf : s.final with
  | true =>
    rw [hf, if_pos rfl] at hM
    subst hM
    generalize s.out = M at *
    clear hf
    go_enter Tryz.func76, Tryz.ntmps76
    go_wp2
    go_loopg [3, 5, 13] n (fun gm s3 _ s13 wr => ∃ (k : Nat), s13 = .int .i64 k ∧ k ≤ n ∧ n - k ≤ gm ∧ s3 = .int .i64 (minF M (s.arcs.take k)) ∧ Hid (Below w.heap.size w wr))
    case atStart => exact ⟨0, rfl, Nat.zero_le _, by omega, by simp [minF], (Below.refl _ _).alloc (Nat.le_refl _) _⟩
    case round =>
      obtain ⟨k, rfl, hk, hgm, rfl, HB⟩ := hrel
      by_cases hlt : k < n
      · have hltz : (k : Int) < (n : Int) := by omega
        obtain ⟨x, hx⟩ : ∃ x, s.arcs[k]? = some x := ⟨s.arcs[k]'(by have := HN.out; omega), List.getElem?_eq_getElem _⟩
        obtain ⟨g, off, rfl, hg, c0, c1, c2⟩ := (HR.out.below (HB.out.mono hE)).at hx
        have HS : Hid (minF M (s.arcs.take (k + 1)) = min (minF M (s.arcs.take k)) x.out) := minF_snoc hx _
        have HB2 : Hid (∀ o, Below w.heap.size w (wr.alloc o)) := fun o => HB.out.alloc HB.out.size o
        clear hx
        generalize minF M (s.arcs.take k) = m at *
        go_wp2
        all_goals
          go_roundg (n - (k + 1))
          case measure => omega
          case rel => exact ⟨k + 1, by go_num, by omega, Nat.le_refl _, by rw [HS.out]; congr 1; omega, HB2.out _⟩
      · have hltz : ¬ (k : Int) < (n : Int) := by omega
        have HE : Hid (minF M (s.arcs.take k) = leastS s) := by show _ = _; rw [List.take_of_length_le (by have := HN.out; omega)]; exact HM.out
        go_wp2
        go_ret
        exact ⟨by rw [HE.out]; rfl, HB.out⟩
  | false =>
    rw [hf, if_neg (by decide)] at hM
    subst hM
    generalize s.out = so at *
    clear hf
    go_enter Tryz.func76, Tryz.ntmps76
    go_wp2
    obtain ⟨M, hMM⟩ : ∃ M : Int, M = 9223372036854775807 := ⟨_, rfl⟩
    rw [← hMM] at HM ⊢
    clear hMM
    go_loopg [3, 5, 13] n (fun gm s3 _ s13 wr => ∃ (k : Nat), s13 = .int .i64 k ∧ k ≤ n ∧ n - k ≤ gm ∧ s3 = .int .i64 (minF M (s.arcs.take k)) ∧ Hid (Below w.heap.size w wr))
    case atStart => exact ⟨0, rfl, Nat.zero_le _, by omega, by simp [minF], (Below.refl _ _).alloc (Nat.le_refl _) _⟩
    case round =>
      obtain ⟨k, rfl, hk, hgm, rfl, HB⟩ := hrel
      by_cases hlt : k < n
      · have hltz : (k : Int) < (n : Int) := by omega
        obtain ⟨x, hx⟩ : ∃ x, s.arcs[k]? = some x := ⟨s.arcs[k]'(by have := HN.out; omega), List.getElem?_eq_getElem _⟩
        obtain ⟨g, off, rfl, hg, c0, c1, c2⟩ := (HR.out.below (HB.out.mono hE)).at hx
        have HS : Hid (minF M (s.arcs.take (k + 1)) = min (minF M (s.arcs.take k)) x.out) := minF_snoc hx _
        have HB2 : Hid (∀ o, Below w.heap.size w (wr.alloc o)) := fun o => HB.out.alloc HB.out.size o
        clear hx
        generalize minF M (s.arcs.take k) = m at *
        go_wp2
        all_goals
          go_roundg (n - (k + 1))
          case measure => omega
          case rel => exact ⟨k + 1, by go_num, by omega, Nat.le_refl _, by rw [HS.out]; congr 1; omega, HB2.out _⟩
      · have hltz : ¬ (k : Int) < (n : Int) := by omega
        have HE : Hid (minF M (s.arcs.take k) = leastS s) := by show _ = _; rw [List.take_of_length_le (by have := HN.out; omega)]; exact HM.out
        go_wp2
        go_ret
        exact ⟨by rw [HE.out]; rfl, HB.out⟩
theorem word_one (r : Int) : (allR [r] && wordB (textS [r]).data.toList) = wordR r := by
  unfold allR wordR
  simp only [List.all_cons, List.all_nil, Bool.and_true]
  cases hr : isR r with
  | false => rfl
  | true =>
    have h1 : allR [r] = true := by simp [allR, hr]
    have h2 : (textS [r]).data.toList = [r].flatMap wr := by
      unfold textS
      rw [if_pos h1]
      show ((([r].flatMap wrI).map (fun n => UInt8.ofNat n.toNat)).toArray).toList = _
      rw [List.toList_toArray]
      exact flat_bytes [r]
    rw [h2, Bool.true_and, Bool.true_and]
    have h3 := rs_text (xs := [r]) (by simp [hr])
    unfold wordB
    rw [h3]
    simp
set_option maxHeartbeats 1000000 in
theorem ofWords_any (w : World) (r : Int) (hT : Tabs w) :
    Calls Tryz.prog 97 #[.int .i32 r] w fun e w' => e = .returned (.bool (wordR r)) ∧ Below w.heap.size w w' := by
  have hb0 : ∀ o, Below w.heap.size w (w.alloc o) := fun o => (Below.refl _ w).alloc (Nat.le_refl _) o
  have HT : Hid (∀ o, Tabs (w.alloc o)) := fun o => hT.below (hb0 o)
  have HB : Hid (∀ o, Below w.heap.size w (w.alloc o)) := hb0
  have HW : Hid ((allR [r] && wordB (textS [r]).data.toList) = wordR r) := word_one r
  have HSZ : Hid ((textS [r]).size ≤ 9223372036854775807) := by
    show _ ≤ _
    have h1 := flat_len [r]
    unfold textS
    split
    · show (List.toArray _).size ≤ _
      simp only [List.size_toArray, List.length_map]
      simp only [List.length_cons, List.length_nil] at h1
      omega
    · decide
  have HROW : Hid (∀ T, Row (w.alloc (.cells #[.int .i32 r] T)) (.slice (some ⟨w.heap.size, 0, none⟩) 1 1) [r]) := fun T => by
    refine ⟨_, 1, rfl, fun _ => ⟨_, 0, rfl, fun i hi => ?_⟩⟩
    have : i = 0 := by simpa using hi
    subst this
    simp
  have HTX : Hid (∀ T, Calls Tryz.prog 110 #[.slice (some ⟨w.heap.size, 0, none⟩) 1 1] (w.alloc (.cells #[.int .i32 r] T)) fun e w' => e = .returned (.tuple #[.string (textS [r]), .bool (allR [r])]) ∧ Below w.heap.size w w') := fun T => by
    refine (Text_any _ [r] _ (HT.out _) (HROW.out T) (by simp)).mono ?_
    rintro e w1 ⟨rfl, hb1⟩
    exact ⟨rfl, (HB.out _).trans (hb1.mono (HB.out (.cells #[.int .i32 r] T)).size)⟩
  have HWD : Hid (∀ w1, Below w.heap.size w w1 → Calls Tryz.prog 57 #[.string (textS [r])] w1 fun e w' => e = .returned (.bool (wordB (textS [r]).data.toList)) ∧ Below w.heap.size w w') := fun w1 hb1 => by
    refine (Word_any _ _ (hT.below hb1) HSZ.out).mono ?_
    rintro e w2 ⟨rfl, q, rfl⟩
    exact ⟨rfl, belowN hb1 q⟩
  clear hT hb0 HSZ HROW HT HB
  generalize allR [r] = A at *
  generalize wordB (textS [r]).data.toList = B at *
  generalize textS [r] = S at *
  go_enter Tryz.func97, Tryz.ntmps97
  cases A with
  | true =>
    go_wp2_with (first
      | (go_at_call 110; refine (HTX.out _).mono ?_; rintro e w1 ⟨rfl, hb1⟩; have HB1 : Hid (Below w.heap.size w w1) := hb1; clear hb1)
      | (go_at_call 57; refine (HWD.out _ HB1.out).mono ?_; rintro e w2 ⟨rfl, hb2⟩))
    go_ret
    exact ⟨by rw [← HW.out]; rfl, hb2⟩
  | false =>
    go_wp2_with (first
      | (go_at_call 110; refine (HTX.out _).mono ?_; rintro e w1 ⟨rfl, hb1⟩; have HB1 : Hid (Below w.heap.size w w1) := hb1; clear hb1))
    go_ret
    exact ⟨by rw [← HW.out]; rfl, HB1.out⟩
end Go.Proofs.YtllmdfkiogmofaaGreatDoor

/- behind: what the ways on from a state come to. -/
namespace Go.Proofs.YtllmdfkiogmofaaGreatDoor
open Go.RowKit Nums Fm Pk
set_option maxRecDepth 100000

def cellsR (r : Pk.Reach) : List Value := [.int .i64 r.arcs, .int .i64 r.words, .int .i64 r.weight]
theorem cellsR_ok (r : Pk.Reach) : Cells 3 (cellsR r) := ⟨rfl, by simp [cellsR, Value.oneCell']⟩
theorem rtyRc : RTy 137 135 3 24 := ⟨by kernel_rfl, ⟨.agg #[.int .i64 0, .int .i64 0, .int .i64 0], by kernel_rfl, rfl⟩, by decide, by decide⟩
namespace Pk
theorem beh_snoc {l : List RArc} {k : Nat} {a : RArc} (h : l[k]? = some a) (known : List Pk.Reach) (r : Pk.Reach) : (l.take (k + 1)).foldl (stepR known) r = stepR known ((l.take k).foldl (stepR known) r) a := by
  rw [List.take_add_one, h, List.foldl_append]
  rfl
/-- Bounds of what is known. -/
structure KnOk (r : Pk.Reach) : Prop where
  a0 : 0 ≤ r.arcs
  a1 : r.arcs ≤ 24
  w0 : 0 ≤ r.words
  w1 : r.words ≤ 4096
  g0 : 0 ≤ r.weight
  g1 : r.weight ≤ 1048576
/-- Bounds, while arcs are gone through. -/
structure RB (k : Nat) (r : Pk.Reach) : Prop where
  a0 : 0 ≤ r.arcs
  a1 : r.arcs ≤ 25
  w0 : 0 ≤ r.words
  w1 : r.words ≤ 1 + k * 4096
  g0 : 0 ≤ r.weight
  g1 : r.weight ≤ 9223372036854775807
end Pk
/-- The block of r. -/
structure RcBlk (rb : Nat) (r : Pk.Reach) (w : World) : Prop where
  blk : w.heap[rb]? = some (.cells #[.int .i64 r.arcs, .int .i64 r.words, .int .i64 r.weight] 137)
theorem RcBlk.facts {rb : Nat} {r : Pk.Reach} {w : World} (h : RcBlk rb r w) : w.cell? ⟨rb, 0, none⟩ = some (.int .i64 r.arcs) ∧ w.cell? ⟨rb, 1, none⟩ = some (.int .i64 r.words) ∧ w.cell? ⟨rb, 2, none⟩ = some (.int .i64 r.weight) ∧ ∀ o, w.frozen? ⟨rb, o, none⟩ = false := ⟨by simp [World.cell?, h.blk], by simp [World.cell?, h.blk], by simp [World.cell?, h.blk], fun o => by simp [World.frozen?, h.blk]⟩
theorem RcBlk.lt {rb : Nat} {r : Pk.Reach} {w : World} (h : RcBlk rb r w) : rb < w.heap.size := (Array.getElem?_eq_some_iff.1 h.blk).1
theorem RcBlk.below {rb : Nat} {r : Pk.Reach} {w w' : World} (h : RcBlk rb r w) (hb : Below w.heap.size w w') : RcBlk rb r w' := ⟨(hb.block rb h.lt).trans h.blk⟩
theorem beh_results {tmps : Array Value} {w : World} {rb : Nat} {a b c : Value} (h2 : tmps.getD 4 undef = .pointer (some ⟨rb, 0, none⟩)) (c0 : w.cell? ⟨rb, 0, none⟩ = some a) (c1 : w.cell? ⟨rb, 1, none⟩ = some b) (c2 : w.cell? ⟨rb, 2, none⟩ = some c) : (results Tryz.f78 tmps).run Tryz.prog w = .ok (.agg #[a, b, c]) w := by
  have h2' : tmps[4]?.getD undef = .pointer (some ⟨rb, 0, none⟩) := by simpa using h2
  simp [results, Tryz.results78, go_sem, h2', c0, c1, c2]
theorem RcBlk.set0 {rb : Nat} {r : Pk.Reach} {w : World} (h : RcBlk rb r w) (x : Int) : RcBlk rb ⟨x, r.words, r.weight⟩ (w.setCell ⟨rb, 0, none⟩ (.int .i64 x)) := ⟨by rw [set_at h.blk]; rfl⟩
theorem RcBlk.set1 {rb : Nat} {r : Pk.Reach} {w : World} (h : RcBlk rb r w) (x : Int) : RcBlk rb ⟨r.arcs, x, r.weight⟩ (w.setCell ⟨rb, 1, none⟩ (.int .i64 x)) := ⟨by rw [set_at h.blk]; rfl⟩
theorem RcBlk.set2 {rb : Nat} {r : Pk.Reach} {w : World} (h : RcBlk rb r w) (x : Int) : RcBlk rb ⟨r.arcs, r.words, x⟩ (w.setCell ⟨rb, 2, none⟩ (.int .i64 x)) := ⟨by rw [set_at h.blk]; rfl⟩
theorem RcBlk.other {rb : Nat} {r : Pk.Reach} {w w' : World} (h : RcBlk rb r w) (e : w'.heap[rb]? = w.heap[rb]?) : RcBlk rb r w' := ⟨e.trans h.blk⟩
theorem known_at {E : Nat} {w : World} {kd : Option Addr} {kn kc : Nat} {known : List Pk.Reach} (h : GRow E 3 w (.slice kd kn kc) (known.map cellsR)) {t : Nat} {T : Pk.Reach} (ht : known[t]? = some T) : ∃ g off, kd = some ⟨g, off, none⟩ ∧ g < E ∧ w.cell? ⟨g, off + t * 3, none⟩ = some (.int .i64 T.arcs) ∧ w.cell? ⟨g, off + t * 3 + 1, none⟩ = some (.int .i64 T.words) ∧ w.cell? ⟨g, off + t * 3 + 2, none⟩ = some (.int .i64 T.weight) := by
  obtain ⟨ad', cap', hv, hc⟩ := h.ex
  simp only [Value.slice.injEq] at hv
  have hk := (List.getElem?_eq_some_iff.1 ht).1
  obtain ⟨g, off, rfl, hg, hx⟩ := hc (by rw [List.length_map]; omega)
  have e : (known.map cellsR)[t]? = some (cellsR T) := by rw [List.getElem?_map, ht]; rfl
  exact ⟨g, off, hv.1, hg, hx t 0 _ _ e rfl, hx t 1 _ _ e rfl, hx t 2 _ _ e rfl⟩
set_option maxHeartbeats 2000000 in
theorem behind_any (E : Nat) (w : World) (s : RSt) (va vk : Value) (known : List Pk.Reach) (h : ArcsAt E w va s.arcs) (hk : GRow E 3 w vk (known.map cellsR)) (hE : E ≤ w.heap.size)
    (hto : ∀ a ∈ s.arcs, 0 ≤ a.to ∧ a.to < known.length ∧ 0 ≤ a.out) (hkn : ∀ r ∈ known, KnOk r) (hn : s.arcs.length ≤ 1114112) (hso1 : s.out ≤ 9223372036854775807) (hso0 : 0 ≤ s.out) :
    Calls Tryz.prog 78 #[.agg #[.bool s.final, .int .i64 s.out, va], vk] w fun e w' => e = .returned (.agg #[.int .i64 (behR s known).arcs, .int .i64 (behR s known).words, .int .i64 (behR s known).weight]) ∧ Below w.heap.size w w' := by
  obtain ⟨ad, cap, rfl⟩ := h.shape
  obtain ⟨n, hnn⟩ : ∃ n, s.arcs.length = n := ⟨_, rfl⟩
  have HN : Hid (s.arcs.length = n) := hnn
  have HR : Hid (ArcsAt E w (.slice ad s.arcs.length cap) s.arcs) := h
  have hl := h.len
  rw [hnn] at HR hl hn ⊢
  clear h hnn
  obtain ⟨kd, kc, hvk⟩ := hk.shape
  rw [List.length_map] at hvk
  subst hvk
  obtain ⟨kn, hkk⟩ : ∃ kn, known.length = kn := ⟨_, rfl⟩
  have HKN : Hid (known.length = kn) := hkk
  rw [hkk] at hk hto ⊢
  have HK : Hid (GRow E 3 w (.slice kd kn kc) (known.map cellsR)) := hk
  clear hk hkk
  go_enter Tryz.func78, Tryz.ntmps78
  obtain ⟨r0, hr0⟩ : ∃ r0 : Pk.Reach, r0 = if s.final then ⟨0, 1, s.out⟩ else ⟨0, 0, 0⟩ := ⟨_, rfl⟩
  have HRR : Hid (behR s known = s.arcs.foldl (stepR known) r0) := by show _ = _; rw [hr0]; rfl
  have HRB0 : Hid (RB 0 r0) := by
    show RB 0 r0
    rw [hr0]
    split
    · exact ⟨by simp, by simp, by simp, by simp, by simpa using hso0, by simpa using hso1⟩
    · exact ⟨by simp, by simp, by simp, by simp, by simp, by simp⟩
  have HKN2 : Hid (∀ r ∈ known, KnOk r) := hkn
  cases hf : s.final with
  | true =>
    go_upto_region 4 with fail
    have e0 : r0.arcs = 0 ∧ r0.words = 1 ∧ r0.weight = s.out := by rw [hr0, hf]; exact ⟨rfl, rfl, rfl⟩
    clear hr0 hf
    have hobj : Obj.cells #[Value.int IntKind.i64 0, Value.int IntKind.i64 1, Value.int IntKind.i64 s.out] 137 = Obj.cells #[.int .i64 r0.arcs, .int .i64 r0.words, .int .i64 r0.weight] 137 := by rw [e0.1, e0.2.1, e0.2.2]
    rw [hobj]
    clear hobj e0
    obtain ⟨rb, hrb⟩ : ∃ rb, rb = w.heap.size + 1 + 1 := ⟨_, rfl⟩
    obtain ⟨qb, hqb⟩ : ∃ qb, qb = w.heap.size + 1 := ⟨_, rfl⟩
    rw [← hrb, ← hqb]
    have HR0 : Hid (∀ o, RcBlk rb r0 (((w.alloc o).alloc (.cells #[.int .i64 0, .int .i64 0, .int .i64 0] 137)).alloc (.cells #[.int .i64 r0.arcs, .int .i64 r0.words, .int .i64 r0.weight] 137))) := fun o => by
      refine ⟨?_⟩
      have : ((w.alloc o).alloc (.cells #[.int .i64 0, .int .i64 0, .int .i64 0] 137)).heap.size = rb := by rw [hrb]; simp
      rw [← this]
      exact alloc_newP _ _
    have HQ0 : Hid (∀ o, RcBlk qb ⟨0, 0, 0⟩ (((w.alloc o).alloc (.cells #[.int .i64 0, .int .i64 0, .int .i64 0] 137)).alloc (.cells #[.int .i64 r0.arcs, .int .i64 r0.words, .int .i64 r0.weight] 137))) := fun o => by
      refine ⟨?_⟩
      have : (w.alloc o).heap.size = qb := by rw [hqb]; simp
      rw [(MapKept.heap_alloc _ _).2 qb (by rw [hqb]; simp), ← this]
      exact alloc_newP _ _
    have HB0 : Hid (∀ o, Below w.heap.size w (((w.alloc o).alloc (.cells #[.int .i64 0, .int .i64 0, .int .i64 0] 137)).alloc (.cells #[.int .i64 r0.arcs, .int .i64 r0.words, .int .i64 r0.weight] 137))) := fun o => (((Below.refl _ w).alloc (Nat.le_refl _) _).alloc (by simp) _).alloc (by simp; omega) _
    have HRQ : Hid (w.heap.size ≤ rb ∧ w.heap.size ≤ qb ∧ rb ≠ qb) := ⟨by omega, by omega, by omega⟩
    clear hrb hqb
    go_wp2
    go_loopg [7, 8, 17] n (fun gm _ _ s17 wr => ∃ (k : Nat) (r : Pk.Reach), s17 = .int .i64 k ∧ k ≤ n ∧ n - k ≤ gm ∧ Hid ((s.arcs.take k).foldl (stepR known) r0 = r) ∧ Hid (RB k r) ∧ Hid (RcBlk rb r wr) ∧ Hid (RcBlk qb ⟨0, 0, 0⟩ wr) ∧ Hid (Below w.heap.size w wr))
    case atStart => exact ⟨0, r0, rfl, Nat.zero_le _, by omega, rfl, HRB0, HR0.out _, HQ0.out _, HB0.out _⟩
    case round =>
      obtain ⟨k, r, rfl, hk, hgm, HFO, HRB, HRC, HQC, HB⟩ := hrel
      by_cases hlt : k < n
      · have hltz : (k : Int) < (n : Int) := by omega
        obtain ⟨x, hx⟩ : ∃ x, s.arcs[k]? = some x := ⟨s.arcs[k]'(by have := HN.out; omega), List.getElem?_eq_getElem _⟩
        obtain ⟨hx0, hx1, hx2⟩ := hto x (List.mem_of_getElem? hx)
        obtain ⟨t, ht⟩ : ∃ t : Nat, x.to = (t : Int) := ⟨x.to.toNat, by omega⟩
        have htk : t < kn := by omega
        have htz : (t : Int) < (kn : Int) := by omega
        obtain ⟨T, hT⟩ : ∃ T, known[t]? = some T := ⟨known[t]'(by have := HKN.out; omega), List.getElem?_eq_getElem _⟩
        obtain ⟨T0, T1, T2, T3, T4, T5⟩ := hkn T (List.mem_of_getElem? hT)
        obtain ⟨g, off, rfl, hg, c0, c1, c2⟩ := (HR.out.below (HB.out.mono hE)).at hx
        obtain ⟨kg, koff, rfl, hkg, d0, d1, d2⟩ := known_at (HK.out.below (HB.out.mono hE)) hT
        rw [ht] at c2
        have hdA : ∀ (o : Obj) (j : Nat), (wr.alloc o).cell? ⟨kg, j, none⟩ = wr.cell? ⟨kg, j, none⟩ := fun o j => ((Below.refl _ wr).alloc (Nat.le_refl _) o).cell (p := ⟨kg, j, none⟩) (Nat.lt_of_lt_of_le hkg (Nat.le_trans hE HB.out.size))
        have d0' := fun o => (hdA o _).trans d0
        have d1' := fun o => (hdA o _).trans d1
        have d2' := fun o => (hdA o _).trans d2
        have HST : Hid ((s.arcs.take (k + 1)).foldl (stepR known) r0 = ⟨max r.arcs (T.arcs + 1), r.words + T.words, max r.weight (min x.out 1048576 + T.weight)⟩) := by
          show _ = _
          rw [beh_snoc hx, HFO.out]
          unfold stepR
          rw [ht, Int.toNat_natCast, List.getD_eq_getElem?_getD, hT]
          rfl
        obtain ⟨b0, b1, b2, b3, b4, b5⟩ := HRB.out
        obtain ⟨W2, hW2⟩ : ∃ W2, W2 = (wr.alloc (.cells #[.int .i32 x.label, .int .i64 x.out, .int .i64 (t : Int)] 63)).alloc (.cells #[.int .i64 T.arcs, .int .i64 T.words, .int .i64 T.weight] 137) := ⟨_, rfl⟩
        obtain ⟨ab, hab⟩ : ∃ ab, ab = wr.heap.size := ⟨_, rfl⟩
        obtain ⟨tb, htb⟩ : ∃ tb, tb = wr.heap.size + 1 := ⟨_, rfl⟩
        have hb2 : Below wr.heap.size wr W2 := by rw [hW2]; exact ((Below.refl _ wr).alloc (Nat.le_refl _) _).alloc (by simp) _
        have hA2 : W2.heap[ab]? = some (.cells #[.int .i32 x.label, .int .i64 x.out, .int .i64 (t : Int)] 63) := by
          rw [hW2, (MapKept.heap_alloc _ _).2 ab (by rw [hab]; simp), hab]
          exact alloc_newP _ _
        have hT2 : RcBlk tb T W2 := by
          refine ⟨?_⟩
          have : (wr.alloc (.cells #[.int .i32 x.label, .int .i64 x.out, .int .i64 (t : Int)] 63)).heap.size = tb := by rw [htb]; simp
          rw [hW2, ← this]
          exact alloc_newP _ _
        have hrl := HRC.out.lt
        have hne : ab ≠ rb ∧ tb ≠ rb := ⟨by omega, by omega⟩
        have hr2 := HRC.out.below hb2
        have ha1 : W2.cell? ⟨ab, 1, none⟩ = some (.int .i64 x.out) := by simp [World.cell?, hA2]
        have ha2 : W2.cell? ⟨ab, 2, none⟩ = some (.int .i64 (t : Int)) := by simp [World.cell?, hA2]
        obtain ⟨r0', r1', r2', rz⟩ := hr2.facts
        obtain ⟨t0, t1, t2, tz⟩ := hT2.facts
        have HW3 : Hid (∀ v, ((W2.setCell ⟨rb, 0, none⟩ (.int .i64 v)).cell? ⟨rb, 1, none⟩ = some (.int .i64 r.words)) ∧ ((W2.setCell ⟨rb, 0, none⟩ (.int .i64 v)).frozen? ⟨rb, 1, none⟩ = false) ∧ ((W2.setCell ⟨rb, 0, none⟩ (.int .i64 v)).cell? ⟨tb, 1, none⟩ = some (.int .i64 T.words))) := fun v => by
          have h3 := hr2.set0 v
          exact ⟨h3.facts.2.1, h3.facts.2.2.2 1, (hT2.other (set_other _ _ _ _ hne.2)).facts.2.1⟩
        have HW4 : Hid (∀ v u, (((W2.setCell ⟨rb, 0, none⟩ (.int .i64 v)).setCell ⟨rb, 1, none⟩ (.int .i64 u)).cell? ⟨rb, 2, none⟩ = some (.int .i64 r.weight)) ∧ (((W2.setCell ⟨rb, 0, none⟩ (.int .i64 v)).setCell ⟨rb, 1, none⟩ (.int .i64 u)).frozen? ⟨rb, 2, none⟩ = false) ∧ (((W2.setCell ⟨rb, 0, none⟩ (.int .i64 v)).setCell ⟨rb, 1, none⟩ (.int .i64 u)).cell? ⟨tb, 2, none⟩ = some (.int .i64 T.weight)) ∧ (((W2.setCell ⟨rb, 0, none⟩ (.int .i64 v)).setCell ⟨rb, 1, none⟩ (.int .i64 u)).cell? ⟨ab, 1, none⟩ = some (.int .i64 x.out))) := fun v u => by
          have h3 := (hr2.set0 v).set1 u
          have h4 : ((W2.setCell ⟨rb, 0, none⟩ (.int .i64 v)).setCell ⟨rb, 1, none⟩ (.int .i64 u)).heap[ab]? = W2.heap[ab]? := (set_other _ _ _ _ hne.1).trans (set_other _ _ _ _ hne.1)
          exact ⟨h3.facts.2.2.1, h3.facts.2.2.2 2, ((hT2.other (set_other _ _ _ _ hne.2)).other (set_other _ _ _ _ hne.2)).facts.2.2.1, (World.cell?_of_block (a := ⟨ab, 1, none⟩) h4).trans ha1⟩
        have HEND : Hid (∀ v u z, v = max r.arcs (T.arcs + 1) → u = r.words + T.words → z = max r.weight (min x.out 1048576 + T.weight) → Hid (RB (k + 1) ⟨max r.arcs (T.arcs + 1), r.words + T.words, max r.weight (min x.out 1048576 + T.weight)⟩) ∧ Hid (RcBlk rb ⟨max r.arcs (T.arcs + 1), r.words + T.words, max r.weight (min x.out 1048576 + T.weight)⟩ (((W2.setCell ⟨rb, 0, none⟩ (.int .i64 v)).setCell ⟨rb, 1, none⟩ (.int .i64 u)).setCell ⟨rb, 2, none⟩ (.int .i64 z))) ∧ Hid (RcBlk qb ⟨0, 0, 0⟩ (((W2.setCell ⟨rb, 0, none⟩ (.int .i64 v)).setCell ⟨rb, 1, none⟩ (.int .i64 u)).setCell ⟨rb, 2, none⟩ (.int .i64 z))) ∧ Hid (Below w.heap.size w (((W2.setCell ⟨rb, 0, none⟩ (.int .i64 v)).setCell ⟨rb, 1, none⟩ (.int .i64 u)).setCell ⟨rb, 2, none⟩ (.int .i64 z)))) := fun v u z h1 h2 h3 => by
          have hq2 := HQC.out.below hb2
          have hqr : qb ≠ rb := fun e => HRQ.out.2.2 e.symm
          subst h1 h2 h3
          refine ⟨⟨by simp only; omega, by simp only; omega, by simp only; omega, by simp only; omega, by simp only; omega, by simp only; omega⟩, (((hr2.set0 _).set1 _).set2 _), (((hq2.other (set_other _ _ _ _ hqr)).other (set_other _ _ _ _ hqr)).other (set_other _ _ _ _ hqr)), ?_⟩
          exact (((HB.out.trans (hb2.mono HB.out.size)).setCell (p := ⟨rb, 0, none⟩) HRQ.out.1 _).setCell (p := ⟨rb, 1, none⟩) HRQ.out.1 _).setCell (p := ⟨rb, 2, none⟩) HRQ.out.1 _
        have HE1 : Hid (RB (k + 1) ⟨max r.arcs (T.arcs + 1), r.words + T.words, max r.weight (min x.out 1048576 + T.weight)⟩) := (HEND.out _ _ _ rfl rfl rfl).1
        have HE2 : Hid (∀ v u z, v = max r.arcs (T.arcs + 1) → u = r.words + T.words → z = max r.weight (min x.out 1048576 + T.weight) → Hid (RcBlk rb ⟨max r.arcs (T.arcs + 1), r.words + T.words, max r.weight (min x.out 1048576 + T.weight)⟩ (((W2.setCell ⟨rb, 0, none⟩ (.int .i64 v)).setCell ⟨rb, 1, none⟩ (.int .i64 u)).setCell ⟨rb, 2, none⟩ (.int .i64 z)))) := fun v u z h1 h2 h3 => (HEND.out v u z h1 h2 h3).2.1
        have HE3 : Hid (∀ v u z, v = max r.arcs (T.arcs + 1) → u = r.words + T.words → z = max r.weight (min x.out 1048576 + T.weight) → Hid (RcBlk qb ⟨0, 0, 0⟩ (((W2.setCell ⟨rb, 0, none⟩ (.int .i64 v)).setCell ⟨rb, 1, none⟩ (.int .i64 u)).setCell ⟨rb, 2, none⟩ (.int .i64 z)))) := fun v u z h1 h2 h3 => (HEND.out v u z h1 h2 h3).2.2.1
        have HE4 : Hid (∀ v u z, v = max r.arcs (T.arcs + 1) → u = r.words + T.words → z = max r.weight (min x.out 1048576 + T.weight) → Hid (Below w.heap.size w (((W2.setCell ⟨rb, 0, none⟩ (.int .i64 v)).setCell ⟨rb, 1, none⟩ (.int .i64 u)).setCell ⟨rb, 2, none⟩ (.int .i64 z)))) := fun v u z h1 h2 h3 => (HEND.out v u z h1 h2 h3).2.2.2
        clear hx hT hb2 hA2 hT2 hr2 hrl hne hdA d0 d1 d2 HEND
        go_upto_region 8 with fail
        rw [← htb, ← hab, ← hW2]
        clear hab htb hW2 c0 c1 c2 d0' d1' d2'
        go_upto_region 9 with fail
        all_goals
          have e0 := fun v => (HW3.out v).1
          have e1 := fun v => (HW3.out v).2.1
          have e2 := fun v => (HW3.out v).2.2
          go_upto_region 10 with fail
          clear e0 e1 e2
          have f0 := fun v u => (HW4.out v u).1
          have f1 := fun v u => (HW4.out v u).2.1
          have f2 := fun v u => (HW4.out v u).2.2.1
          have f3 := fun v u => (HW4.out v u).2.2.2
          go_wp2
          all_goals
            go_roundg (n - (k + 1))
            case measure => omega
            case rel =>
              exact ⟨k + 1, _, by go_num, by omega, Nat.le_refl _, HST, HE1, HE2.out _ _ _ (by omega) rfl (by omega), HE3.out _ _ _ (by omega) rfl (by omega), HE4.out _ _ _ (by omega) rfl (by omega)⟩
      · have hltz : ¬ (k : Int) < (n : Int) := by omega
        have hfin : behR s known = r := by
          rw [HRR.out, ← HFO.out, List.take_of_length_le (by have := HN.out; omega)]
        have HFIN : Hid (behR s known = r) := hfin
        clear hfin
        obtain ⟨r0', r1', r2', rz⟩ := HRC.out.facts
        obtain ⟨q0, q1, q2, qz⟩ := HQC.out.facts
        go_wp2
        try simp only [Exit.inBlock, Exit.then]
        have hq := ((HQC.out.set0 r.arcs).set1 r.words).set2 r.weight
        refine bodyPost_ret (beh_results rfl hq.facts.1 hq.facts.2.1 hq.facts.2.2.1) rfl ?_
        exact ⟨by rw [HFIN.out], ((HB.out.setCell (p := ⟨qb, 0, none⟩) HRQ.out.2.1 _).setCell (p := ⟨qb, 1, none⟩) HRQ.out.2.1 _).setCell (p := ⟨qb, 2, none⟩) HRQ.out.2.1 _⟩
  | false =>
    go_upto_region 4 with fail
    have e0 : r0.arcs = 0 ∧ r0.words = 0 ∧ r0.weight = 0 := by rw [hr0, hf]; exact ⟨rfl, rfl, rfl⟩
    clear hr0 hf
    have hobj : Obj.cells #[Value.int IntKind.i64 0, Value.int IntKind.i64 0, Value.int IntKind.i64 0] 137 = Obj.cells #[.int .i64 r0.arcs, .int .i64 r0.words, .int .i64 r0.weight] 137 := by rw [e0.1, e0.2.1, e0.2.2]
    have hww : ∀ o, ((w.alloc o).alloc (.cells #[.int .i64 0, .int .i64 0, .int .i64 0] 137)).alloc (.cells #[.int .i64 0, .int .i64 0, .int .i64 0] 137) = ((w.alloc o).alloc (.cells #[.int .i64 0, .int .i64 0, .int .i64 0] 137)).alloc (.cells #[.int .i64 r0.arcs, .int .i64 r0.words, .int .i64 r0.weight] 137) := fun o => congrArg _ hobj
    rw [hww]
    clear hobj hww e0
    obtain ⟨rb, hrb⟩ : ∃ rb, rb = w.heap.size + 1 + 1 := ⟨_, rfl⟩
    obtain ⟨qb, hqb⟩ : ∃ qb, qb = w.heap.size + 1 := ⟨_, rfl⟩
    rw [← hrb, ← hqb]
    have HR0 : Hid (∀ o, RcBlk rb r0 (((w.alloc o).alloc (.cells #[.int .i64 0, .int .i64 0, .int .i64 0] 137)).alloc (.cells #[.int .i64 r0.arcs, .int .i64 r0.words, .int .i64 r0.weight] 137))) := fun o => by
      refine ⟨?_⟩
      have : ((w.alloc o).alloc (.cells #[.int .i64 0, .int .i64 0, .int .i64 0] 137)).heap.size = rb := by rw [hrb]; simp
      rw [← this]
      exact alloc_newP _ _
    have HQ0 : Hid (∀ o, RcBlk qb ⟨0, 0, 0⟩ (((w.alloc o).alloc (.cells #[.int .i64 0, .int .i64 0, .int .i64 0] 137)).alloc (.cells #[.int .i64 r0.arcs, .int .i64 r0.words, .int .i64 r0.weight] 137))) := fun o => by
      refine ⟨?_⟩
      have : (w.alloc o).heap.size = qb := by rw [hqb]; simp
      rw [(MapKept.heap_alloc _ _).2 qb (by rw [hqb]; simp), ← this]
      exact alloc_newP _ _
    have HB0 : Hid (∀ o, Below w.heap.size w (((w.alloc o).alloc (.cells #[.int .i64 0, .int .i64 0, .int .i64 0] 137)).alloc (.cells #[.int .i64 r0.arcs, .int .i64 r0.words, .int .i64 r0.weight] 137))) := fun o => (((Below.refl _ w).alloc (Nat.le_refl _) _).alloc (by simp) _).alloc (by simp; omega) _
    have HRQ : Hid (w.heap.size ≤ rb ∧ w.heap.size ≤ qb ∧ rb ≠ qb) := ⟨by omega, by omega, by omega⟩
    clear hrb hqb
    go_wp2
    go_loopg [7, 8, 17] n (fun gm _ _ s17 wr => ∃ (k : Nat) (r : Pk.Reach), s17 = .int .i64 k ∧ k ≤ n ∧ n - k ≤ gm ∧ Hid ((s.arcs.take k).foldl (stepR known) r0 = r) ∧ Hid (RB k r) ∧ Hid (RcBlk rb r wr) ∧ Hid (RcBlk qb ⟨0, 0, 0⟩ wr) ∧ Hid (Below w.heap.size w wr))
    case atStart => exact ⟨0, r0, rfl, Nat.zero_le _, by omega, rfl, HRB0, HR0.out _, HQ0.out _, HB0.out _⟩
    case round =>
      obtain ⟨k, r, rfl, hk, hgm, HFO, HRB, HRC, HQC, HB⟩ := hrel
      by_cases hlt : k < n
      · have hltz : (k : Int) < (n : Int) := by omega
        obtain ⟨x, hx⟩ : ∃ x, s.arcs[k]? = some x := ⟨s.arcs[k]'(by have := HN.out; omega), List.getElem?_eq_getElem _⟩
        obtain ⟨hx0, hx1, hx2⟩ := hto x (List.mem_of_getElem? hx)
        obtain ⟨t, ht⟩ : ∃ t : Nat, x.to = (t : Int) := ⟨x.to.toNat, by omega⟩
        have htk : t < kn := by omega
        have htz : (t : Int) < (kn : Int) := by omega
        obtain ⟨T, hT⟩ : ∃ T, known[t]? = some T := ⟨known[t]'(by have := HKN.out; omega), List.getElem?_eq_getElem _⟩
        obtain ⟨T0, T1, T2, T3, T4, T5⟩ := hkn T (List.mem_of_getElem? hT)
        obtain ⟨g, off, rfl, hg, c0, c1, c2⟩ := (HR.out.below (HB.out.mono hE)).at hx
        obtain ⟨kg, koff, rfl, hkg, d0, d1, d2⟩ := known_at (HK.out.below (HB.out.mono hE)) hT
        rw [ht] at c2
        have hdA : ∀ (o : Obj) (j : Nat), (wr.alloc o).cell? ⟨kg, j, none⟩ = wr.cell? ⟨kg, j, none⟩ := fun o j => ((Below.refl _ wr).alloc (Nat.le_refl _) o).cell (p := ⟨kg, j, none⟩) (Nat.lt_of_lt_of_le hkg (Nat.le_trans hE HB.out.size))
        have d0' := fun o => (hdA o _).trans d0
        have d1' := fun o => (hdA o _).trans d1
        have d2' := fun o => (hdA o _).trans d2
        have HST : Hid ((s.arcs.take (k + 1)).foldl (stepR known) r0 = ⟨max r.arcs (T.arcs + 1), r.words + T.words, max r.weight (min x.out 1048576 + T.weight)⟩) := by
          show _ = _
          rw [beh_snoc hx, HFO.out]
          unfold stepR
          rw [ht, Int.toNat_natCast, List.getD_eq_getElem?_getD, hT]
          rfl
        obtain ⟨b0, b1, b2, b3, b4, b5⟩ := HRB.out
        obtain ⟨W2, hW2⟩ : ∃ W2, W2 = (wr.alloc (.cells #[.int .i32 x.label, .int .i64 x.out, .int .i64 (t : Int)] 63)).alloc (.cells #[.int .i64 T.arcs, .int .i64 T.words, .int .i64 T.weight] 137) := ⟨_, rfl⟩
        obtain ⟨ab, hab⟩ : ∃ ab, ab = wr.heap.size := ⟨_, rfl⟩
        obtain ⟨tb, htb⟩ : ∃ tb, tb = wr.heap.size + 1 := ⟨_, rfl⟩
        have hb2 : Below wr.heap.size wr W2 := by rw [hW2]; exact ((Below.refl _ wr).alloc (Nat.le_refl _) _).alloc (by simp) _
        have hA2 : W2.heap[ab]? = some (.cells #[.int .i32 x.label, .int .i64 x.out, .int .i64 (t : Int)] 63) := by
          rw [hW2, (MapKept.heap_alloc _ _).2 ab (by rw [hab]; simp), hab]
          exact alloc_newP _ _
        have hT2 : RcBlk tb T W2 := by
          refine ⟨?_⟩
          have : (wr.alloc (.cells #[.int .i32 x.label, .int .i64 x.out, .int .i64 (t : Int)] 63)).heap.size = tb := by rw [htb]; simp
          rw [hW2, ← this]
          exact alloc_newP _ _
        have hrl := HRC.out.lt
        have hne : ab ≠ rb ∧ tb ≠ rb := ⟨by omega, by omega⟩
        have hr2 := HRC.out.below hb2
        have ha1 : W2.cell? ⟨ab, 1, none⟩ = some (.int .i64 x.out) := by simp [World.cell?, hA2]
        have ha2 : W2.cell? ⟨ab, 2, none⟩ = some (.int .i64 (t : Int)) := by simp [World.cell?, hA2]
        obtain ⟨r0', r1', r2', rz⟩ := hr2.facts
        obtain ⟨t0, t1, t2, tz⟩ := hT2.facts
        have HW3 : Hid (∀ v, ((W2.setCell ⟨rb, 0, none⟩ (.int .i64 v)).cell? ⟨rb, 1, none⟩ = some (.int .i64 r.words)) ∧ ((W2.setCell ⟨rb, 0, none⟩ (.int .i64 v)).frozen? ⟨rb, 1, none⟩ = false) ∧ ((W2.setCell ⟨rb, 0, none⟩ (.int .i64 v)).cell? ⟨tb, 1, none⟩ = some (.int .i64 T.words))) := fun v => by
          have h3 := hr2.set0 v
          exact ⟨h3.facts.2.1, h3.facts.2.2.2 1, (hT2.other (set_other _ _ _ _ hne.2)).facts.2.1⟩
        have HW4 : Hid (∀ v u, (((W2.setCell ⟨rb, 0, none⟩ (.int .i64 v)).setCell ⟨rb, 1, none⟩ (.int .i64 u)).cell? ⟨rb, 2, none⟩ = some (.int .i64 r.weight)) ∧ (((W2.setCell ⟨rb, 0, none⟩ (.int .i64 v)).setCell ⟨rb, 1, none⟩ (.int .i64 u)).frozen? ⟨rb, 2, none⟩ = false) ∧ (((W2.setCell ⟨rb, 0, none⟩ (.int .i64 v)).setCell ⟨rb, 1, none⟩ (.int .i64 u)).cell? ⟨tb, 2, none⟩ = some (.int .i64 T.weight)) ∧ (((W2.setCell ⟨rb, 0, none⟩ (.int .i64 v)).setCell ⟨rb, 1, none⟩ (.int .i64 u)).cell? ⟨ab, 1, none⟩ = some (.int .i64 x.out))) := fun v u => by
          have h3 := (hr2.set0 v).set1 u
          have h4 : ((W2.setCell ⟨rb, 0, none⟩ (.int .i64 v)).setCell ⟨rb, 1, none⟩ (.int .i64 u)).heap[ab]? = W2.heap[ab]? := (set_other _ _ _ _ hne.1).trans (set_other _ _ _ _ hne.1)
          exact ⟨h3.facts.2.2.1, h3.facts.2.2.2 2, ((hT2.other (set_other _ _ _ _ hne.2)).other (set_other _ _ _ _ hne.2)).facts.2.2.1, (World.cell?_of_block (a := ⟨ab, 1, none⟩) h4).trans ha1⟩
        have HEND : Hid (∀ v u z, v = max r.arcs (T.arcs + 1) → u = r.words + T.words → z = max r.weight (min x.out 1048576 + T.weight) → Hid (RB (k + 1) ⟨max r.arcs (T.arcs + 1), r.words + T.words, max r.weight (min x.out 1048576 + T.weight)⟩) ∧ Hid (RcBlk rb ⟨max r.arcs (T.arcs + 1), r.words + T.words, max r.weight (min x.out 1048576 + T.weight)⟩ (((W2.setCell ⟨rb, 0, none⟩ (.int .i64 v)).setCell ⟨rb, 1, none⟩ (.int .i64 u)).setCell ⟨rb, 2, none⟩ (.int .i64 z))) ∧ Hid (RcBlk qb ⟨0, 0, 0⟩ (((W2.setCell ⟨rb, 0, none⟩ (.int .i64 v)).setCell ⟨rb, 1, none⟩ (.int .i64 u)).setCell ⟨rb, 2, none⟩ (.int .i64 z))) ∧ Hid (Below w.heap.size w (((W2.setCell ⟨rb, 0, none⟩ (.int .i64 v)).setCell ⟨rb, 1, none⟩ (.int .i64 u)).setCell ⟨rb, 2, none⟩ (.int .i64 z)))) := fun v u z h1 h2 h3 => by
          have hq2 := HQC.out.below hb2
          have hqr : qb ≠ rb := fun e => HRQ.out.2.2 e.symm
          subst h1 h2 h3
          refine ⟨⟨by simp only; omega, by simp only; omega, by simp only; omega, by simp only; omega, by simp only; omega, by simp only; omega⟩, (((hr2.set0 _).set1 _).set2 _), (((hq2.other (set_other _ _ _ _ hqr)).other (set_other _ _ _ _ hqr)).other (set_other _ _ _ _ hqr)), ?_⟩
          exact (((HB.out.trans (hb2.mono HB.out.size)).setCell (p := ⟨rb, 0, none⟩) HRQ.out.1 _).setCell (p := ⟨rb, 1, none⟩) HRQ.out.1 _).setCell (p := ⟨rb, 2, none⟩) HRQ.out.1 _
        have HE1 : Hid (RB (k + 1) ⟨max r.arcs (T.arcs + 1), r.words + T.words, max r.weight (min x.out 1048576 + T.weight)⟩) := (HEND.out _ _ _ rfl rfl rfl).1
        have HE2 : Hid (∀ v u z, v = max r.arcs (T.arcs + 1) → u = r.words + T.words → z = max r.weight (min x.out 1048576 + T.weight) → Hid (RcBlk rb ⟨max r.arcs (T.arcs + 1), r.words + T.words, max r.weight (min x.out 1048576 + T.weight)⟩ (((W2.setCell ⟨rb, 0, none⟩ (.int .i64 v)).setCell ⟨rb, 1, none⟩ (.int .i64 u)).setCell ⟨rb, 2, none⟩ (.int .i64 z)))) := fun v u z h1 h2 h3 => (HEND.out v u z h1 h2 h3).2.1
        have HE3 : Hid (∀ v u z, v = max r.arcs (T.arcs + 1) → u = r.words + T.words → z = max r.weight (min x.out 1048576 + T.weight) → Hid (RcBlk qb ⟨0, 0, 0⟩ (((W2.setCell ⟨rb, 0, none⟩ (.int .i64 v)).setCell ⟨rb, 1, none⟩ (.int .i64 u)).setCell ⟨rb, 2, none⟩ (.int .i64 z)))) := fun v u z h1 h2 h3 => (HEND.out v u z h1 h2 h3).2.2.1
        have HE4 : Hid (∀ v u z, v = max r.arcs (T.arcs + 1) → u = r.words + T.words → z = max r.weight (min x.out 1048576 + T.weight) → Hid (Below w.heap.size w (((W2.setCell ⟨rb, 0, none⟩ (.int .i64 v)).setCell ⟨rb, 1, none⟩ (.int .i64 u)).setCell ⟨rb, 2, none⟩ (.int .i64 z)))) := fun v u z h1 h2 h3 => (HEND.out v u z h1 h2 h3).2.2.2
        clear hx hT hb2 hA2 hT2 hr2 hrl hne hdA d0 d1 d2 HEND
        go_upto_region 8 with fail
        rw [← htb, ← hab, ← hW2]
        clear hab htb hW2 c0 c1 c2 d0' d1' d2'
        go_upto_region 9 with fail
        all_goals
          have e0 := fun v => (HW3.out v).1
          have e1 := fun v => (HW3.out v).2.1
          have e2 := fun v => (HW3.out v).2.2
          go_upto_region 10 with fail
          clear e0 e1 e2
          have f0 := fun v u => (HW4.out v u).1
          have f1 := fun v u => (HW4.out v u).2.1
          have f2 := fun v u => (HW4.out v u).2.2.1
          have f3 := fun v u => (HW4.out v u).2.2.2
          go_wp2
          all_goals
            go_roundg (n - (k + 1))
            case measure => omega
            case rel =>
              exact ⟨k + 1, _, by go_num, by omega, Nat.le_refl _, HST, HE1, HE2.out _ _ _ (by omega) rfl (by omega), HE3.out _ _ _ (by omega) rfl (by omega), HE4.out _ _ _ (by omega) rfl (by omega)⟩
      · have hltz : ¬ (k : Int) < (n : Int) := by omega
        have hfin : behR s known = r := by
          rw [HRR.out, ← HFO.out, List.take_of_length_le (by have := HN.out; omega)]
        have HFIN : Hid (behR s known = r) := hfin
        clear hfin
        obtain ⟨r0', r1', r2', rz⟩ := HRC.out.facts
        obtain ⟨q0, q1, q2, qz⟩ := HQC.out.facts
        go_wp2
        try simp only [Exit.inBlock, Exit.then]
        have hq := ((HQC.out.set0 r.arcs).set1 r.words).set2 r.weight
        refine bodyPost_ret (beh_results rfl hq.facts.1 hq.facts.2.1 hq.facts.2.2.1) rfl ?_
        exact ⟨by rw [HFIN.out], ((HB.out.setCell (p := ⟨qb, 0, none⟩) HRQ.out.2.1 _).setCell (p := ⟨qb, 1, none⟩) HRQ.out.2.1 _).setCell (p := ⟨qb, 2, none⟩) HRQ.out.2.1 _⟩
end Go.Proofs.YtllmdfkiogmofaaGreatDoor

/- How states are compared. No program is named here. -/
namespace Go.Proofs.YtllmdfkiogmofaaGreatDoor.Pk

def cmpI (a b : Int) : Int := if a < b then -1 else if b < a then 1 else 0
def orI : List Int → Int
  | [] => 0
  | c :: r => if c ≠ 0 then c else orI r
def cmpA (x y : RArc) : Int := orI [cmpI x.label y.label, cmpI x.out y.out, cmpI x.to y.to]
def cmpL : List RArc → List RArc → Int
  | [], [] => 0
  | [], _ :: _ => -1
  | _ :: _, [] => 1
  | x :: xs, y :: ys => if cmpA x y ≠ 0 then cmpA x y else cmpL xs ys
def headS (s : RSt) : Int := 2 * s.arcs.length + (if s.final then 1 else 0)
def cmpH (s t : RSt) : Int := orI [cmpI (headS s) (headS t), cmpI s.out t.out]
def cmpS (s t : RSt) : Int := if cmpH s t ≠ 0 then cmpH s t else cmpL s.arcs t.arcs
/-- A way of comparing that is an order. -/
structure Ord3 {α : Type} (c : α → α → Int) : Prop where
  eq : ∀ x y, c x y = 0 ↔ x = y
  anti : ∀ x y, c x y < 0 ↔ 0 < c y x
  tr : ∀ x y z, c x y < 0 → c y z < 0 → c x z < 0
theorem cmpI_ord : Ord3 cmpI := by
  refine ⟨fun x y => ?_, fun x y => ?_, fun x y z => ?_⟩ <;> unfold cmpI
  · repeat' split
    all_goals omega
  · repeat' split
    all_goals omega
  · repeat' split
    all_goals omega
/-- By the one, then by the other. -/
theorem Ord3.then {α β γ : Type} {c : α → α → Int} {d : β → β → Int} (hc : Ord3 c) (hd : Ord3 d) (p : γ → α) (q : γ → β) (inj : ∀ x y, p x = p y → q x = q y → x = y) : Ord3 fun x y : γ => if c (p x) (p y) ≠ 0 then c (p x) (p y) else d (q x) (q y) := by
  have c0 : ∀ x y, c x y = 0 ↔ c y x = 0 := fun x y => by rw [hc.eq, hc.eq]; exact eq_comm
  refine ⟨fun x y => ?_, fun x y => ?_, fun x y z => ?_⟩
  · split
    · rename_i h
      exact ⟨fun e => absurd e h, fun e => absurd ((hc.eq _ _).2 (congrArg p e)) h⟩
    · rename_i h
      have h' : c (p x) (p y) = 0 := Decidable.byContradiction h
      exact ⟨fun e => inj x y ((hc.eq _ _).1 h') ((hd.eq _ _).1 e), fun e => (hd.eq _ _).2 (congrArg q e)⟩
  · by_cases h : c (p x) (p y) = 0
    · rw [if_neg (fun hn => hn h), if_neg (fun hn => hn ((c0 _ _).1 h))]
      exact hd.anti _ _
    · rw [if_pos h, if_pos (fun hn => h ((c0 _ _).2 hn))]
      exact hc.anti _ _
  · by_cases h1 : c (p x) (p y) = 0
    · have e1 := (hc.eq _ _).1 h1
      rw [if_neg (fun hn => hn h1)]
      by_cases h2 : c (p y) (p z) = 0
      · have e2 := (hc.eq _ _).1 h2
        rw [if_neg (fun hn => hn h2), e1, if_neg (fun hn => hn h2)]
        exact hd.tr _ _ _
      · rw [if_pos h2, e1, if_pos h2]
        exact fun _ h => h
    · rw [if_pos h1]
      by_cases h2 : c (p y) (p z) = 0
      · have e2 := (hc.eq _ _).1 h2
        rw [if_neg (fun hn => hn h2), ← e2, if_pos h1]
        exact fun h _ => h
      · rw [if_pos h2]
        intro g1 g2
        have := hc.tr _ _ _ g1 g2
        rw [if_pos (by omega)]
        exact this
theorem orI_two (a b : Int) : orI [a, b] = if a ≠ 0 then a else if b ≠ 0 then b else 0 := rfl
theorem cmpA_ord : Ord3 cmpA := by
  have h := Ord3.then (γ := RArc) cmpI_ord (Ord3.then (γ := Int × Int) cmpI_ord cmpI_ord (·.1) (·.2) (fun x y h1 h2 => Prod.ext h1 h2)) (·.label) (fun a => (a.out, a.to)) (fun x y h1 h2 => by
    cases x; cases y
    simp only [Prod.mk.injEq] at h1 h2
    rw [h1, h2.1, h2.2])
  have e : cmpA = fun x y : RArc => if cmpI x.label y.label ≠ 0 then cmpI x.label y.label else if cmpI x.out y.out ≠ 0 then cmpI x.out y.out else cmpI x.to y.to := by
    funext x y
    unfold cmpA orI orI orI orI
    by_cases h1 : cmpI x.label y.label = 0
    · by_cases h2 : cmpI x.out y.out = 0
      · by_cases h3 : cmpI x.to y.to = 0 <;> simp [h1, h2, h3]
      · simp [h1, h2]
    · simp [h1]
  rw [e]
  exact h
theorem cmpL_eq : ∀ x y, cmpL x y = 0 ↔ x = y
  | [], [] => by simp [cmpL]
  | [], _ :: _ => by simp [cmpL]
  | _ :: _, [] => by simp [cmpL]
  | x :: xs, y :: ys => by
    rw [cmpL]
    by_cases h : cmpA x y = 0
    · rw [if_neg (fun hn => hn h), cmpL_eq xs ys, (cmpA_ord.eq _ _).1 h]
      simp
    · rw [if_pos h]
      exact ⟨fun e => absurd e h, fun e => absurd ((cmpA_ord.eq _ _).2 (List.cons.inj e).1) h⟩
theorem cmpL_anti : ∀ x y, cmpL x y < 0 ↔ 0 < cmpL y x
  | [], [] => by simp [cmpL]
  | [], _ :: _ => by simp [cmpL]
  | _ :: _, [] => by simp [cmpL]
  | x :: xs, y :: ys => by
    rw [cmpL, cmpL]
    have c0 : cmpA x y = 0 ↔ cmpA y x = 0 := by rw [cmpA_ord.eq, cmpA_ord.eq]; exact eq_comm
    by_cases h : cmpA x y = 0
    · rw [if_neg (fun hn => hn h), if_neg (fun hn => hn (c0.1 h))]
      exact cmpL_anti xs ys
    · rw [if_pos h, if_pos (fun hn => h (c0.2 hn))]
      exact cmpA_ord.anti _ _
theorem cmpL_tr : ∀ x y z, cmpL x y < 0 → cmpL y z < 0 → cmpL x z < 0
  | [], [], _, h, _ => by simp [cmpL] at h
  | [], _ :: _, [], _, h => by simp [cmpL] at h
  | [], _ :: _, _ :: _, _, _ => by simp [cmpL]
  | _ :: _, [], _, h, _ => by simp [cmpL] at h
  | _ :: _, _ :: _, [], _, h => by simp [cmpL] at h
  | x :: xs, y :: ys, z :: zs, h1, h2 => by
    rw [cmpL] at h1 h2 ⊢
    by_cases g1 : cmpA x y = 0
    · have e1 := (cmpA_ord.eq _ _).1 g1
      rw [if_neg (fun hn => hn g1)] at h1
      subst e1
      by_cases g2 : cmpA x z = 0
      · rw [if_neg (fun hn => hn g2)] at h2 ⊢
        exact cmpL_tr xs ys zs h1 h2
      · rw [if_pos g2] at h2 ⊢
        exact h2
    · rw [if_pos g1] at h1
      by_cases g2 : cmpA y z = 0
      · have e2 := (cmpA_ord.eq _ _).1 g2
        subst e2
        rw [if_pos g1]
        exact h1
      · rw [if_pos g2] at h2
        have := cmpA_ord.tr _ _ _ h1 h2
        rw [if_pos (by omega)]
        exact this
theorem cmpL_ord : Ord3 cmpL := ⟨cmpL_eq, cmpL_anti, cmpL_tr⟩
theorem cmpS_ord : Ord3 cmpS := by
  have hh : Ord3 fun x y : Int × Int => if cmpI x.1 y.1 ≠ 0 then cmpI x.1 y.1 else cmpI x.2 y.2 := Ord3.then cmpI_ord cmpI_ord (·.1) (·.2) (fun x y h1 h2 => Prod.ext h1 h2)
  have h := Ord3.then (γ := RSt) hh cmpL_ord (fun s => (headS s, s.out)) (·.arcs) (fun x y h1 h2 => by
    simp only [Prod.mk.injEq] at h1
    obtain ⟨h3, h4⟩ := h1
    unfold headS at h3
    rw [h2] at h3
    cases x with
    | mk f1 o1 a1 =>
      cases y with
      | mk f2 o2 a2 =>
        simp only at h2 h3 h4
        subst h2 h4
        cases f1 <;> cases f2 <;> simp at h3 ⊢ <;> omega)
  have e : cmpS = fun s t : RSt => if (if cmpI (headS s) (headS t) ≠ 0 then cmpI (headS s) (headS t) else cmpI s.out t.out) ≠ 0 then (if cmpI (headS s) (headS t) ≠ 0 then cmpI (headS s) (headS t) else cmpI s.out t.out) else cmpL s.arcs t.arcs := by
    funext s t
    have eh : cmpH s t = if cmpI (headS s) (headS t) ≠ 0 then cmpI (headS s) (headS t) else cmpI s.out t.out := by
      unfold cmpH orI orI orI
      by_cases h1 : cmpI (headS s) (headS t) = 0
      · by_cases h2 : cmpI s.out t.out = 0 <;> simp [h1, h2]
      · simp [h1]
    unfold cmpS
    rw [eh]
  rw [e]
  exact h
end Go.Proofs.YtllmdfkiogmofaaGreatDoor.Pk

/- Texts that were written apart, joined. -/
import Derived.Test.YtncnefpkfbngaaaGreatDoorG2
/- behind: what the ways on from a state come to. -/
namespace Go.Proofs.YtncnefpkfbngaaaGreatDoor
open Go.RowKit Nums Fm Pk
set_option maxRecDepth 100000

def cellsR (r : Pk.Reach) : List Value := [.int .i64 r.arcs, .int .i64 r.words, .int .i64 r.weight]
theorem cellsR_ok (r : Pk.Reach) : Cells 3 (cellsR r) := ⟨rfl, by simp [cellsR, Value.oneCell']⟩
theorem rtyRc : RTy 155 153 3 24 := ⟨by kernel_rfl, ⟨.agg #[.int .i64 0, .int .i64 0, .int .i64 0], by kernel_rfl, rfl⟩, by decide, by decide⟩
namespace Pk
theorem beh_snoc {l : List RArc} {k : Nat} {a : RArc} (h : l[k]? = some a) (known : List Pk.Reach) (r : Pk.Reach) : (l.take (k + 1)).foldl (stepR known) r = stepR known ((l.take k).foldl (stepR known) r) a := by
 rw [List.take_add_one, h, List.foldl_append]
 rfl
/-- Bounds of what is known. -/
structure KnOk (r : Pk.Reach) : Prop where
 a0 : 0 ≤ r.arcs
 a1 : r.arcs ≤ 24
 w0 : 0 ≤ r.words
 w1 : r.words ≤ 4096
 g0 : 0 ≤ r.weight
 g1 : r.weight ≤ 1048576
/-- Bounds, while arcs are gone through. -/
structure RB (k : Nat) (r : Pk.Reach) : Prop where
 a0 : 0 ≤ r.arcs
 a1 : r.arcs ≤ 25
 w0 : 0 ≤ r.words
 w1 : r.words ≤ 1 + k * 4096
 g0 : 0 ≤ r.weight
 g1 : r.weight ≤ 9223372036854775807
end Pk
/-- The block of r. -/
structure RcBlk (rb : Nat) (r : Pk.Reach) (w : World) : Prop where
 blk : w.heap[rb]? = some (.cells #[.int .i64 r.arcs, .int .i64 r.words, .int .i64 r.weight] 155)
theorem RcBlk.facts {rb : Nat} {r : Pk.Reach} {w : World} (h : RcBlk rb r w) : w.cell? ⟨rb, 0, none⟩ = some (.int .i64 r.arcs) ∧ w.cell? ⟨rb, 1, none⟩ = some (.int .i64 r.words) ∧ w.cell? ⟨rb, 2, none⟩ = some (.int .i64 r.weight) ∧ ∀ o, w.frozen? ⟨rb, o, none⟩ = false := ⟨by simp [World.cell?, h.blk], by simp [World.cell?, h.blk], by simp [World.cell?, h.blk], fun o => by simp [World.frozen?, h.blk]⟩
theorem RcBlk.lt {rb : Nat} {r : Pk.Reach} {w : World} (h : RcBlk rb r w) : rb < w.heap.size := (Array.getElem?_eq_some_iff.1 h.blk).1
theorem RcBlk.below {rb : Nat} {r : Pk.Reach} {w w' : World} (h : RcBlk rb r w) (hb : Below w.heap.size w w') : RcBlk rb r w' := ⟨(hb.block rb h.lt).trans h.blk⟩
theorem beh_results {tmps : Array Value} {w : World} {rb : Nat} {a b c : Value} (h2 : tmps.getD 4 undef = .pointer (some ⟨rb, 0, none⟩)) (c0 : w.cell? ⟨rb, 0, none⟩ = some a) (c1 : w.cell? ⟨rb, 1, none⟩ = some b) (c2 : w.cell? ⟨rb, 2, none⟩ = some c) : (results Tryz.f94 tmps).run Tryz.prog w = .ok (.agg #[a, b, c]) w := by
 have h2' : tmps[4]?.getD undef = .pointer (some ⟨rb, 0, none⟩) := by simpa using h2
 simp [results, Tryz.results94, go_sem, h2', c0, c1, c2]
theorem RcBlk.set0 {rb : Nat} {r : Pk.Reach} {w : World} (h : RcBlk rb r w) (x : Int) : RcBlk rb ⟨x, r.words, r.weight⟩ (w.setCell ⟨rb, 0, none⟩ (.int .i64 x)) := ⟨by rw [set_at h.blk]; rfl⟩
theorem RcBlk.set1 {rb : Nat} {r : Pk.Reach} {w : World} (h : RcBlk rb r w) (x : Int) : RcBlk rb ⟨r.arcs, x, r.weight⟩ (w.setCell ⟨rb, 1, none⟩ (.int .i64 x)) := ⟨by rw [set_at h.blk]; rfl⟩
theorem RcBlk.set2 {rb : Nat} {r : Pk.Reach} {w : World} (h : RcBlk rb r w) (x : Int) : RcBlk rb ⟨r.arcs, r.words, x⟩ (w.setCell ⟨rb, 2, none⟩ (.int .i64 x)) := ⟨by rw [set_at h.blk]; rfl⟩
theorem RcBlk.other {rb : Nat} {r : Pk.Reach} {w w' : World} (h : RcBlk rb r w) (e : w'.heap[rb]? = w.heap[rb]?) : RcBlk rb r w' := ⟨e.trans h.blk⟩
theorem known_at {E : Nat} {w : World} {kd : Option Addr} {kn kc : Nat} {known : List Pk.Reach} (h : GRow E 3 w (.slice kd kn kc) (known.map cellsR)) {t : Nat} {T : Pk.Reach} (ht : known[t]? = some T) : ∃ g off, kd = some ⟨g, off, none⟩ ∧ g < E ∧ w.cell? ⟨g, off + t * 3, none⟩ = some (.int .i64 T.arcs) ∧ w.cell? ⟨g, off + t * 3 + 1, none⟩ = some (.int .i64 T.words) ∧ w.cell? ⟨g, off + t * 3 + 2, none⟩ = some (.int .i64 T.weight) := by
 obtain ⟨ad', cap', hv, hc⟩ := h.ex
 simp only [Value.slice.injEq] at hv
 have hk := (List.getElem?_eq_some_iff.1 ht).1
 obtain ⟨g, off, rfl, hg, hx⟩ := hc (by rw [List.length_map]; omega)
 have e : (known.map cellsR)[t]? = some (cellsR T) := by rw [List.getElem?_map, ht]; rfl
 exact ⟨g, off, hv.1, hg, hx t 0 _ _ e rfl, hx t 1 _ _ e rfl, hx t 2 _ _ e rfl⟩
set_option maxHeartbeats 2000000 in
theorem behind_any (E : Nat) (w : World) (s : RSt) (va vk : Value) (known : List Pk.Reach) (h : ArcsAt E w va s.arcs) (hk : GRow E 3 w vk (known.map cellsR)) (hE : E ≤ w.heap.size)
 (hto : ∀ a ∈ s.arcs, 0 ≤ a.to ∧ a.to < known.length ∧ 0 ≤ a.out) (hkn : ∀ r ∈ known, KnOk r) (hn : s.arcs.length ≤ 1114112) (hso1 : s.out ≤ 9223372036854775807) (hso0 : 0 ≤ s.out) :
 Calls Tryz.prog 94 #[.agg #[.bool s.final, .int .i64 s.out, va], vk] w fun e w' => e = .returned (.agg #[.int .i64 (behR s known).arcs, .int .i64 (behR s known).words, .int .i64 (behR s known).weight]) ∧ Below w.heap.size w w' := by
 obtain ⟨ad, cap, rfl⟩ := h.shape
 obtain ⟨n, hnn⟩ : ∃ n, s.arcs.length = n := ⟨_, rfl⟩
 have HN : Hid (s.arcs.length = n) := hnn
 have HR : Hid (ArcsAt E w (.slice ad s.arcs.length cap) s.arcs) := h
 have hl := h.len
 rw [hnn] at HR hl hn ⊢
 clear h hnn
 obtain ⟨kd, kc, hvk⟩ := hk.shape
 rw [List.length_map] at hvk
 subst hvk
 obtain ⟨kn, hkk⟩ : ∃ kn, known.length = kn := ⟨_, rfl⟩
 have HKN : Hid (known.length = kn) := hkk
 rw [hkk] at hk hto ⊢
 have HK : Hid (GRow E 3 w (.slice kd kn kc) (known.map cellsR)) := hk
 clear hk hkk
 go_enter Tryz.func94, Tryz.ntmps94
 obtain ⟨r0, hr0⟩ : ∃ r0 : Pk.Reach, r0 = if s.final then ⟨0, 1, s.out⟩ else ⟨0, 0, 0⟩ := ⟨_, rfl⟩
 have HRR : Hid (behR s known = s.arcs.foldl (stepR known) r0) := by show _ = _; rw [hr0]; rfl
 have HRB0 : Hid (RB 0 r0) := by
  show RB 0 r0
  rw [hr0]
  split
  · exact ⟨by simp, by simp, by simp, by simp, by simpa using hso0, by simpa using hso1⟩
  · exact ⟨by simp, by simp, by simp, by simp, by simp, by simp⟩
 have HKN2 : Hid (∀ r ∈ known, KnOk r) := hkn
 cases hf : s.final with
 | true =>
  go_upto_region 4 with fail
  have e0 : r0.arcs = 0 ∧ r0.words = 1 ∧ r0.weight = s.out := by rw [hr0, hf]; exact ⟨rfl, rfl, rfl⟩
  clear hr0 hf
  have hobj : Obj.cells #[Value.int IntKind.i64 0, Value.int IntKind.i64 1, Value.int IntKind.i64 s.out] 155 = Obj.cells #[.int .i64 r0.arcs, .int .i64 r0.words, .int .i64 r0.weight] 155 := by rw [e0.1, e0.2.1, e0.2.2]
  rw [hobj]
  clear hobj e0
  obtain ⟨rb, hrb⟩ : ∃ rb, rb = w.heap.size + 1 + 1 := ⟨_, rfl⟩
  obtain ⟨qb, hqb⟩ : ∃ qb, qb = w.heap.size + 1 := ⟨_, rfl⟩
  rw [← hrb, ← hqb]
  have HR0 : Hid (∀ o, RcBlk rb r0 (((w.alloc o).alloc (.cells #[.int .i64 0, .int .i64 0, .int .i64 0] 155)).alloc (.cells #[.int .i64 r0.arcs, .int .i64 r0.words, .int .i64 r0.weight] 155))) := fun o => by
   refine ⟨?_⟩
   have : ((w.alloc o).alloc (.cells #[.int .i64 0, .int .i64 0, .int .i64 0] 155)).heap.size = rb := by rw [hrb]; simp
   rw [← this]
   exact alloc_newP _ _
  have HQ0 : Hid (∀ o, RcBlk qb ⟨0, 0, 0⟩ (((w.alloc o).alloc (.cells #[.int .i64 0, .int .i64 0, .int .i64 0] 155)).alloc (.cells #[.int .i64 r0.arcs, .int .i64 r0.words, .int .i64 r0.weight] 155))) := fun o => by
   refine ⟨?_⟩
   have : (w.alloc o).heap.size = qb := by rw [hqb]; simp
   rw [(MapKept.heap_alloc _ _).2 qb (by rw [hqb]; simp), ← this]
   exact alloc_newP _ _
  have HB0 : Hid (∀ o, Below w.heap.size w (((w.alloc o).alloc (.cells #[.int .i64 0, .int .i64 0, .int .i64 0] 155)).alloc (.cells #[.int .i64 r0.arcs, .int .i64 r0.words, .int .i64 r0.weight] 155))) := fun o => (((Below.refl _ w).alloc (Nat.le_refl _) _).alloc (by simp) _).alloc (by simp; omega) _
  have HRQ : Hid (w.heap.size ≤ rb ∧ w.heap.size ≤ qb ∧ rb ≠ qb) := ⟨by omega, by omega, by omega⟩
  clear hrb hqb
  go_wp2
  go_loopg [7, 8, 17] n (fun gm _ _ s17 wr => ∃ (k : Nat) (r : Pk.Reach), s17 = .int .i64 k ∧ k ≤ n ∧ n - k ≤ gm ∧ Hid ((s.arcs.take k).foldl (stepR known) r0 = r) ∧ Hid (RB k r) ∧ Hid (RcBlk rb r wr) ∧ Hid (RcBlk qb ⟨0, 0, 0⟩ wr) ∧ Hid (Below w.heap.size w wr))
  case atStart => exact ⟨0, r0, rfl, Nat.zero_le _, by omega, rfl, HRB0, HR0.out _, HQ0.out _, HB0.out _⟩
  case round =>
   obtain ⟨k, r, rfl, hk, hgm, HFO, HRB, HRC, HQC, HB⟩ := hrel
   by_cases hlt : k < n
   · have hltz : (k : Int) < (n : Int) := by omega
     obtain ⟨x, hx⟩ : ∃ x, s.arcs[k]? = some x := ⟨s.arcs[k]'(by have := HN.out; omega), List.getElem?_eq_getElem _⟩
     obtain ⟨hx0, hx1, hx2⟩ := hto x (List.mem_of_getElem? hx)
     obtain ⟨t, ht⟩ : ∃ t : Nat, x.to = (t : Int) := ⟨x.to.toNat, by omega⟩
     have htk : t < kn := by omega
     have htz : (t : Int) < (kn : Int) := by omega
     obtain ⟨T, hT⟩ : ∃ T, known[t]? = some T := ⟨known[t]'(by have := HKN.out; omega), List.getElem?_eq_getElem _⟩
     obtain ⟨T0, T1, T2, T3, T4, T5⟩ := hkn T (List.mem_of_getElem? hT)
     obtain ⟨g, off, rfl, hg, c0, c1, c2⟩ := (HR.out.below (HB.out.mono hE)).at hx
     obtain ⟨kg, koff, rfl, hkg, d0, d1, d2⟩ := known_at (HK.out.below (HB.out.mono hE)) hT
     rw [ht] at c2
     have hdA : ∀ (o : Obj) (j : Nat), (wr.alloc o).cell? ⟨kg, j, none⟩ = wr.cell? ⟨kg, j, none⟩ := fun o j => ((Below.refl _ wr).alloc (Nat.le_refl _) o).cell (p := ⟨kg, j, none⟩) (Nat.lt_of_lt_of_le hkg (Nat.le_trans hE HB.out.size))
     have d0' := fun o => (hdA o _).trans d0
     have d1' := fun o => (hdA o _).trans d1
     have d2' := fun o => (hdA o _).trans d2
     have HST : Hid ((s.arcs.take (k + 1)).foldl (stepR known) r0 = ⟨max r.arcs (T.arcs + 1), r.words + T.words, max r.weight (min x.out 1048576 + T.weight)⟩) := by
      show _ = _
      rw [beh_snoc hx, HFO.out]
      unfold stepR
      rw [ht, Int.toNat_natCast, List.getD_eq_getElem?_getD, hT]
      rfl
     obtain ⟨b0, b1, b2, b3, b4, b5⟩ := HRB.out
     obtain ⟨W2, hW2⟩ : ∃ W2, W2 = (wr.alloc (.cells #[.int .i32 x.label, .int .i64 x.out, .int .i64 (t : Int)] 110)).alloc (.cells #[.int .i64 T.arcs, .int .i64 T.words, .int .i64 T.weight] 155) := ⟨_, rfl⟩
     obtain ⟨ab, hab⟩ : ∃ ab, ab = wr.heap.size := ⟨_, rfl⟩
     obtain ⟨tb, htb⟩ : ∃ tb, tb = wr.heap.size + 1 := ⟨_, rfl⟩
     have hb2 : Below wr.heap.size wr W2 := by rw [hW2]; exact ((Below.refl _ wr).alloc (Nat.le_refl _) _).alloc (by simp) _
     have hA2 : W2.heap[ab]? = some (.cells #[.int .i32 x.label, .int .i64 x.out, .int .i64 (t : Int)] 110) := by
      rw [hW2, (MapKept.heap_alloc _ _).2 ab (by rw [hab]; simp), hab]
      exact alloc_newP _ _
     have hT2 : RcBlk tb T W2 := by
      refine ⟨?_⟩
      have : (wr.alloc (.cells #[.int .i32 x.label, .int .i64 x.out, .int .i64 (t : Int)] 110)).heap.size = tb := by rw [htb]; simp
      rw [hW2, ← this]
      exact alloc_newP _ _
     have hrl := HRC.out.lt
     have hne : ab ≠ rb ∧ tb ≠ rb := ⟨by omega, by omega⟩
     have hr2 := HRC.out.below hb2
     have ha1 : W2.cell? ⟨ab, 1, none⟩ = some (.int .i64 x.out) := by simp [World.cell?, hA2]
     have ha2 : W2.cell? ⟨ab, 2, none⟩ = some (.int .i64 (t : Int)) := by simp [World.cell?, hA2]
     obtain ⟨r0', r1', r2', rz⟩ := hr2.facts
     obtain ⟨t0, t1, t2, tz⟩ := hT2.facts
     have HW3 : Hid (∀ v, ((W2.setCell ⟨rb, 0, none⟩ (.int .i64 v)).cell? ⟨rb, 1, none⟩ = some (.int .i64 r.words)) ∧ ((W2.setCell ⟨rb, 0, none⟩ (.int .i64 v)).frozen? ⟨rb, 1, none⟩ = false) ∧ ((W2.setCell ⟨rb, 0, none⟩ (.int .i64 v)).cell? ⟨tb, 1, none⟩ = some (.int .i64 T.words))) := fun v => by
      have h3 := hr2.set0 v
      exact ⟨h3.facts.2.1, h3.facts.2.2.2 1, (hT2.other (set_other _ _ _ _ hne.2)).facts.2.1⟩
     have HW4 : Hid (∀ v u, (((W2.setCell ⟨rb, 0, none⟩ (.int .i64 v)).setCell ⟨rb, 1, none⟩ (.int .i64 u)).cell? ⟨rb, 2, none⟩ = some (.int .i64 r.weight)) ∧ (((W2.setCell ⟨rb, 0, none⟩ (.int .i64 v)).setCell ⟨rb, 1, none⟩ (.int .i64 u)).frozen? ⟨rb, 2, none⟩ = false) ∧ (((W2.setCell ⟨rb, 0, none⟩ (.int .i64 v)).setCell ⟨rb, 1, none⟩ (.int .i64 u)).cell? ⟨tb, 2, none⟩ = some (.int .i64 T.weight)) ∧ (((W2.setCell ⟨rb, 0, none⟩ (.int .i64 v)).setCell ⟨rb, 1, none⟩ (.int .i64 u)).cell? ⟨ab, 1, none⟩ = some (.int .i64 x.out))) := fun v u => by
      have h3 := (hr2.set0 v).set1 u
      have h4 : ((W2.setCell ⟨rb, 0, none⟩ (.int .i64 v)).setCell ⟨rb, 1, none⟩ (.int .i64 u)).heap[ab]? = W2.heap[ab]? := (set_other _ _ _ _ hne.1).trans (set_other _ _ _ _ hne.1)
      exact ⟨h3.facts.2.2.1, h3.facts.2.2.2 2, ((hT2.other (set_other _ _ _ _ hne.2)).other (set_other _ _ _ _ hne.2)).facts.2.2.1, (World.cell?_of_block (a := ⟨ab, 1, none⟩) h4).trans ha1⟩
     have HEND : Hid (∀ v u z, v = max r.arcs (T.arcs + 1) → u = r.words + T.words → z = max r.weight (min x.out 1048576 + T.weight) → Hid (RB (k + 1) ⟨max r.arcs (T.arcs + 1), r.words + T.words, max r.weight (min x.out 1048576 + T.weight)⟩) ∧ Hid (RcBlk rb ⟨max r.arcs (T.arcs + 1), r.words + T.words, max r.weight (min x.out 1048576 + T.weight)⟩ (((W2.setCell ⟨rb, 0, none⟩ (.int .i64 v)).setCell ⟨rb, 1, none⟩ (.int .i64 u)).setCell ⟨rb, 2, none⟩ (.int .i64 z))) ∧ Hid (RcBlk qb ⟨0, 0, 0⟩ (((W2.setCell ⟨rb, 0, none⟩ (.int .i64 v)).setCell ⟨rb, 1, none⟩ (.int .i64 u)).setCell ⟨rb, 2, none⟩ (.int .i64 z))) ∧ Hid (Below w.heap.size w (((W2.setCell ⟨rb, 0, none⟩ (.int .i64 v)).setCell ⟨rb, 1, none⟩ (.int .i64 u)).setCell ⟨rb, 2, none⟩ (.int .i64 z)))) := fun v u z h1 h2 h3 => by
      have hq2 := HQC.out.below hb2
      have hqr : qb ≠ rb := fun e => HRQ.out.2.2 e.symm
      subst h1 h2 h3
      refine ⟨⟨by simp only; omega, by simp only; omega, by simp only; omega, by simp only; omega, by simp only; omega, by simp only; omega⟩, (((hr2.set0 _).set1 _).set2 _), (((hq2.other (set_other _ _ _ _ hqr)).other (set_other _ _ _ _ hqr)).other (set_other _ _ _ _ hqr)), ?_⟩
      exact (((HB.out.trans (hb2.mono HB.out.size)).setCell (p := ⟨rb, 0, none⟩) HRQ.out.1 _).setCell (p := ⟨rb, 1, none⟩) HRQ.out.1 _).setCell (p := ⟨rb, 2, none⟩) HRQ.out.1 _
     have HE1 : Hid (RB (k + 1) ⟨max r.arcs (T.arcs + 1), r.words + T.words, max r.weight (min x.out 1048576 + T.weight)⟩) := (HEND.out _ _ _ rfl rfl rfl).1
     have HE2 : Hid (∀ v u z, v = max r.arcs (T.arcs + 1) → u = r.words + T.words → z = max r.weight (min x.out 1048576 + T.weight) → Hid (RcBlk rb ⟨max r.arcs (T.arcs + 1), r.words + T.words, max r.weight (min x.out 1048576 + T.weight)⟩ (((W2.setCell ⟨rb, 0, none⟩ (.int .i64 v)).setCell ⟨rb, 1, none⟩ (.int .i64 u)).setCell ⟨rb, 2, none⟩ (.int .i64 z)))) := fun v u z h1 h2 h3 => (HEND.out v u z h1 h2 h3).2.1
     have HE3 : Hid (∀ v u z, v = max r.arcs (T.arcs + 1) → u = r.words + T.words → z = max r.weight (min x.out 1048576 + T.weight) → Hid (RcBlk qb ⟨0, 0, 0⟩ (((W2.setCell ⟨rb, 0, none⟩ (.int .i64 v)).setCell ⟨rb, 1, none⟩ (.int .i64 u)).setCell ⟨rb, 2, none⟩ (.int .i64 z)))) := fun v u z h1 h2 h3 => (HEND.out v u z h1 h2 h3).2.2.1
     have HE4 : Hid (∀ v u z, v = max r.arcs (T.arcs + 1) → u = r.words + T.words → z = max r.weight (min x.out 1048576 + T.weight) → Hid (Below w.heap.size w (((W2.setCell ⟨rb, 0, none⟩ (.int .i64 v)).setCell ⟨rb, 1, none⟩ (.int .i64 u)).setCell ⟨rb, 2, none⟩ (.int .i64 z)))) := fun v u z h1 h2 h3 => (HEND.out v u z h1 h2 h3).2.2.2
     clear hx hT hb2 hA2 hT2 hr2 hrl hne hdA d0 d1 d2 HEND
     go_upto_region 8 with fail
     rw [← htb, ← hab, ← hW2]
     clear hab htb hW2 c0 c1 c2 d0' d1' d2'
     go_upto_region 9 with fail
     all_goals
      have e0 := fun v => (HW3.out v).1
      have e1 := fun v => (HW3.out v).2.1
      have e2 := fun v => (HW3.out v).2.2
      go_upto_region 10 with fail
      clear e0 e1 e2
      have f0 := fun v u => (HW4.out v u).1
      have f1 := fun v u => (HW4.out v u).2.1
      have f2 := fun v u => (HW4.out v u).2.2.1
      have f3 := fun v u => (HW4.out v u).2.2.2
      go_wp2
      all_goals
       go_roundg (n - (k + 1))
       case measure => omega
       case rel =>
        exact ⟨k + 1, _, by go_num, by omega, Nat.le_refl _, HST, HE1, HE2.out _ _ _ (by omega) rfl (by omega), HE3.out _ _ _ (by omega) rfl (by omega), HE4.out _ _ _ (by omega) rfl (by omega)⟩
   · have hltz : ¬ (k : Int) < (n : Int) := by omega
     have hfin : behR s known = r := by
      rw [HRR.out, ← HFO.out, List.take_of_length_le (by have := HN.out; omega)]
     have HFIN : Hid (behR s known = r) := hfin
     clear hfin
     obtain ⟨r0', r1', r2', rz⟩ := HRC.out.facts
     obtain ⟨q0, q1, q2, qz⟩ := HQC.out.facts
     go_wp2
     try simp only [Exit.inBlock, Exit.then]
     have hq := ((HQC.out.set0 r.arcs).set1 r.words).set2 r.weight
     refine bodyPost_ret (beh_results rfl hq.facts.1 hq.facts.2.1 hq.facts.2.2.1) rfl ?_
     exact ⟨by rw [HFIN.out], ((HB.out.setCell (p := ⟨qb, 0, none⟩) HRQ.out.2.1 _).setCell (p := ⟨qb, 1, none⟩) HRQ.out.2.1 _).setCell (p := ⟨qb, 2, none⟩) HRQ.out.2.1 _⟩
 | false =>
  go_upto_region 4 with fail
  have e0 : r0.arcs = 0 ∧ r0.words = 0 ∧ r0.weight = 0 := by rw [hr0, hf]; exact ⟨rfl, rfl, rfl⟩
  clear hr0 hf
  have hobj : Obj.cells #[Value.int IntKind.i64 0, Value.int IntKind.i64 0, Value.int IntKind.i64 0] 155 = Obj.cells #[.int .i64 r0.arcs, .int .i64 r0.words, .int .i64 r0.weight] 155 := by rw [e0.1, e0.2.1, e0.2.2]
  have hww : ∀ o, ((w.alloc o).alloc (.cells #[.int .i64 0, .int .i64 0, .int .i64 0] 155)).alloc (.cells #[.int .i64 0, .int .i64 0, .int .i64 0] 155) = ((w.alloc o).alloc (.cells #[.int .i64 0, .int .i64 0, .int .i64 0] 155)).alloc (.cells #[.int .i64 r0.arcs, .int .i64 r0.words, .int .i64 r0.weight] 155) := fun o => congrArg _ hobj
  rw [hww]
  clear hobj hww e0
  obtain ⟨rb, hrb⟩ : ∃ rb, rb = w.heap.size + 1 + 1 := ⟨_, rfl⟩
  obtain ⟨qb, hqb⟩ : ∃ qb, qb = w.heap.size + 1 := ⟨_, rfl⟩
  rw [← hrb, ← hqb]
  have HR0 : Hid (∀ o, RcBlk rb r0 (((w.alloc o).alloc (.cells #[.int .i64 0, .int .i64 0, .int .i64 0] 155)).alloc (.cells #[.int .i64 r0.arcs, .int .i64 r0.words, .int .i64 r0.weight] 155))) := fun o => by
   refine ⟨?_⟩
   have : ((w.alloc o).alloc (.cells #[.int .i64 0, .int .i64 0, .int .i64 0] 155)).heap.size = rb := by rw [hrb]; simp
   rw [← this]
   exact alloc_newP _ _
  have HQ0 : Hid (∀ o, RcBlk qb ⟨0, 0, 0⟩ (((w.alloc o).alloc (.cells #[.int .i64 0, .int .i64 0, .int .i64 0] 155)).alloc (.cells #[.int .i64 r0.arcs, .int .i64 r0.words, .int .i64 r0.weight] 155))) := fun o => by
   refine ⟨?_⟩
   have : (w.alloc o).heap.size = qb := by rw [hqb]; simp
   rw [(MapKept.heap_alloc _ _).2 qb (by rw [hqb]; simp), ← this]
   exact alloc_newP _ _
  have HB0 : Hid (∀ o, Below w.heap.size w (((w.alloc o).alloc (.cells #[.int .i64 0, .int .i64 0, .int .i64 0] 155)).alloc (.cells #[.int .i64 r0.arcs, .int .i64 r0.words, .int .i64 r0.weight] 155))) := fun o => (((Below.refl _ w).alloc (Nat.le_refl _) _).alloc (by simp) _).alloc (by simp; omega) _
  have HRQ : Hid (w.heap.size ≤ rb ∧ w.heap.size ≤ qb ∧ rb ≠ qb) := ⟨by omega, by omega, by omega⟩
  clear hrb hqb
  go_wp2
  go_loopg [7, 8, 17] n (fun gm _ _ s17 wr => ∃ (k : Nat) (r : Pk.Reach), s17 = .int .i64 k ∧ k ≤ n ∧ n - k ≤ gm ∧ Hid ((s.arcs.take k).foldl (stepR known) r0 = r) ∧ Hid (RB k r) ∧ Hid (RcBlk rb r wr) ∧ Hid (RcBlk qb ⟨0, 0, 0⟩ wr) ∧ Hid (Below w.heap.size w wr))
  case atStart => exact ⟨0, r0, rfl, Nat.zero_le _, by omega, rfl, HRB0, HR0.out _, HQ0.out _, HB0.out _⟩
  case round =>
   obtain ⟨k, r, rfl, hk, hgm, HFO, HRB, HRC, HQC, HB⟩ := hrel
   by_cases hlt : k < n
   · have hltz : (k : Int) < (n : Int) := by omega
     obtain ⟨x, hx⟩ : ∃ x, s.arcs[k]? = some x := ⟨s.arcs[k]'(by have := HN.out; omega), List.getElem?_eq_getElem _⟩
     obtain ⟨hx0, hx1, hx2⟩ := hto x (List.mem_of_getElem? hx)
     obtain ⟨t, ht⟩ : ∃ t : Nat, x.to = (t : Int) := ⟨x.to.toNat, by omega⟩
     have htk : t < kn := by omega
     have htz : (t : Int) < (kn : Int) := by omega
     obtain ⟨T, hT⟩ : ∃ T, known[t]? = some T := ⟨known[t]'(by have := HKN.out; omega), List.getElem?_eq_getElem _⟩
     obtain ⟨T0, T1, T2, T3, T4, T5⟩ := hkn T (List.mem_of_getElem? hT)
     obtain ⟨g, off, rfl, hg, c0, c1, c2⟩ := (HR.out.below (HB.out.mono hE)).at hx
     obtain ⟨kg, koff, rfl, hkg, d0, d1, d2⟩ := known_at (HK.out.below (HB.out.mono hE)) hT
     rw [ht] at c2
     have hdA : ∀ (o : Obj) (j : Nat), (wr.alloc o).cell? ⟨kg, j, none⟩ = wr.cell? ⟨kg, j, none⟩ := fun o j => ((Below.refl _ wr).alloc (Nat.le_refl _) o).cell (p := ⟨kg, j, none⟩) (Nat.lt_of_lt_of_le hkg (Nat.le_trans hE HB.out.size))
     have d0' := fun o => (hdA o _).trans d0
     have d1' := fun o => (hdA o _).trans d1
     have d2' := fun o => (hdA o _).trans d2
     have HST : Hid ((s.arcs.take (k + 1)).foldl (stepR known) r0 = ⟨max r.arcs (T.arcs + 1), r.words + T.words, max r.weight (min x.out 1048576 + T.weight)⟩) := by
      show _ = _
      rw [beh_snoc hx, HFO.out]
      unfold stepR
      rw [ht, Int.toNat_natCast, List.getD_eq_getElem?_getD, hT]
      rfl
     obtain ⟨b0, b1, b2, b3, b4, b5⟩ := HRB.out
     obtain ⟨W2, hW2⟩ : ∃ W2, W2 = (wr.alloc (.cells #[.int .i32 x.label, .int .i64 x.out, .int .i64 (t : Int)] 110)).alloc (.cells #[.int .i64 T.arcs, .int .i64 T.words, .int .i64 T.weight] 155) := ⟨_, rfl⟩
     obtain ⟨ab, hab⟩ : ∃ ab, ab = wr.heap.size := ⟨_, rfl⟩
     obtain ⟨tb, htb⟩ : ∃ tb, tb = wr.heap.size + 1 := ⟨_, rfl⟩
     have hb2 : Below wr.heap.size wr W2 := by rw [hW2]; exact ((Below.refl _ wr).alloc (Nat.le_refl _) _).alloc (by simp) _
     have hA2 : W2.heap[ab]? = some (.cells #[.int .i32 x.label, .int .i64 x.out, .int .i64 (t : Int)] 110) := by
      rw [hW2, (MapKept.heap_alloc _ _).2 ab (by rw [hab]; simp), hab]
      exact alloc_newP _ _
     have hT2 : RcBlk tb T W2 := by
      refine ⟨?_⟩
      have : (wr.alloc (.cells #[.int .i32 x.label, .int .i64 x.out, .int .i64 (t : Int)] 110)).heap.size = tb := by rw [htb]; simp
      rw [hW2, ← this]
      exact alloc_newP _ _
     have hrl := HRC.out.lt
     have hne : ab ≠ rb ∧ tb ≠ rb := ⟨by omega, by omega⟩
     have hr2 := HRC.out.below hb2
     have ha1 : W2.cell? ⟨ab, 1, none⟩ = some (.int .i64 x.out) := by simp [World.cell?, hA2]
     have ha2 : W2.cell? ⟨ab, 2, none⟩ = some (.int .i64 (t : Int)) := by simp [World.cell?, hA2]
     obtain ⟨r0', r1', r2', rz⟩ := hr2.facts
     obtain ⟨t0, t1, t2, tz⟩ := hT2.facts
     have HW3 : Hid (∀ v, ((W2.setCell ⟨rb, 0, none⟩ (.int .i64 v)).cell? ⟨rb, 1, none⟩ = some (.int .i64 r.words)) ∧ ((W2.setCell ⟨rb, 0, none⟩ (.int .i64 v)).frozen? ⟨rb, 1, none⟩ = false) ∧ ((W2.setCell ⟨rb, 0, none⟩ (.int .i64 v)).cell? ⟨tb, 1, none⟩ = some (.int .i64 T.words))) := fun v => by
      have h3 := hr2.set0 v
      exact ⟨h3.facts.2.1, h3.facts.2.2.2 1, (hT2.other (set_other _ _ _ _ hne.2)).facts.2.1⟩
     have HW4 : Hid (∀ v u, (((W2.setCell ⟨rb, 0, none⟩ (.int .i64 v)).setCell ⟨rb, 1, none⟩ (.int .i64 u)).cell? ⟨rb, 2, none⟩ = some (.int .i64 r.weight)) ∧ (((W2.setCell ⟨rb, 0, none⟩ (.int .i64 v)).setCell ⟨rb, 1, none⟩ (.int .i64 u)).frozen? ⟨rb, 2, none⟩ = false) ∧ (((W2.setCell ⟨rb, 0, none⟩ (.int .i64 v)).setCell ⟨rb, 1, none⟩ (.int .i64 u)).cell? ⟨tb, 2, none⟩ = some (.int .i64 T.weight)) ∧ (((W2.setCell ⟨rb, 0, none⟩ (.int .i64 v)).setCell ⟨rb, 1, none⟩ (.int .i64 u)).cell? ⟨ab, 1, none⟩ = some (.int .i64 x.out))) := fun v u => by
      have h3 := (hr2.set0 v).set1 u
      have h4 : ((W2.setCell ⟨rb, 0, none⟩ (.int .i64 v)).setCell ⟨rb, 1, none⟩ (.int .i64 u)).heap[ab]? = W2.heap[ab]? := (set_other _ _ _ _ hne.1).trans (set_other _ _ _ _ hne.1)
      exact ⟨h3.facts.2.2.1, h3.facts.2.2.2 2, ((hT2.other (set_other _ _ _ _ hne.2)).other (set_other _ _ _ _ hne.2)).facts.2.2.1, (World.cell?_of_block (a := ⟨ab, 1, none⟩) h4).trans ha1⟩
     have HEND : Hid (∀ v u z, v = max r.arcs (T.arcs + 1) → u = r.words + T.words → z = max r.weight (min x.out 1048576 + T.weight) → Hid (RB (k + 1) ⟨max r.arcs (T.arcs + 1), r.words + T.words, max r.weight (min x.out 1048576 + T.weight)⟩) ∧ Hid (RcBlk rb ⟨max r.arcs (T.arcs + 1), r.words + T.words, max r.weight (min x.out 1048576 + T.weight)⟩ (((W2.setCell ⟨rb, 0, none⟩ (.int .i64 v)).setCell ⟨rb, 1, none⟩ (.int .i64 u)).setCell ⟨rb, 2, none⟩ (.int .i64 z))) ∧ Hid (RcBlk qb ⟨0, 0, 0⟩ (((W2.setCell ⟨rb, 0, none⟩ (.int .i64 v)).setCell ⟨rb, 1, none⟩ (.int .i64 u)).setCell ⟨rb, 2, none⟩ (.int .i64 z))) ∧ Hid (Below w.heap.size w (((W2.setCell ⟨rb, 0, none⟩ (.int .i64 v)).setCell ⟨rb, 1, none⟩ (.int .i64 u)).setCell ⟨rb, 2, none⟩ (.int .i64 z)))) := fun v u z h1 h2 h3 => by
      have hq2 := HQC.out.below hb2
      have hqr : qb ≠ rb := fun e => HRQ.out.2.2 e.symm
      subst h1 h2 h3
      refine ⟨⟨by simp only; omega, by simp only; omega, by simp only; omega, by simp only; omega, by simp only; omega, by simp only; omega⟩, (((hr2.set0 _).set1 _).set2 _), (((hq2.other (set_other _ _ _ _ hqr)).other (set_other _ _ _ _ hqr)).other (set_other _ _ _ _ hqr)), ?_⟩
      exact (((HB.out.trans (hb2.mono HB.out.size)).setCell (p := ⟨rb, 0, none⟩) HRQ.out.1 _).setCell (p := ⟨rb, 1, none⟩) HRQ.out.1 _).setCell (p := ⟨rb, 2, none⟩) HRQ.out.1 _
     have HE1 : Hid (RB (k + 1) ⟨max r.arcs (T.arcs + 1), r.words + T.words, max r.weight (min x.out 1048576 + T.weight)⟩) := (HEND.out _ _ _ rfl rfl rfl).1
     have HE2 : Hid (∀ v u z, v = max r.arcs (T.arcs + 1) → u = r.words + T.words → z = max r.weight (min x.out 1048576 + T.weight) → Hid (RcBlk rb ⟨max r.arcs (T.arcs + 1), r.words + T.words, max r.weight (min x.out 1048576 + T.weight)⟩ (((W2.setCell ⟨rb, 0, none⟩ (.int .i64 v)).setCell ⟨rb, 1, none⟩ (.int .i64 u)).setCell ⟨rb, 2, none⟩ (.int .i64 z)))) := fun v u z h1 h2 h3 => (HEND.out v u z h1 h2 h3).2.1
     have HE3 : Hid (∀ v u z, v = max r.arcs (T.arcs + 1) → u = r.words + T.words → z = max r.weight (min x.out 1048576 + T.weight) → Hid (RcBlk qb ⟨0, 0, 0⟩ (((W2.setCell ⟨rb, 0, none⟩ (.int .i64 v)).setCell ⟨rb, 1, none⟩ (.int .i64 u)).setCell ⟨rb, 2, none⟩ (.int .i64 z)))) := fun v u z h1 h2 h3 => (HEND.out v u z h1 h2 h3).2.2.1
     have HE4 : Hid (∀ v u z, v = max r.arcs (T.arcs + 1) → u = r.words + T.words → z = max r.weight (min x.out 1048576 + T.weight) → Hid (Below w.heap.size w (((W2.setCell ⟨rb, 0, none⟩ (.int .i64 v)).setCell ⟨rb, 1, none⟩ (.int .i64 u)).setCell ⟨rb, 2, none⟩ (.int .i64 z)))) := fun v u z h1 h2 h3 => (HEND.out v u z h1 h2 h3).2.2.2
     clear hx hT hb2 hA2 hT2 hr2 hrl hne hdA d0 d1 d2 HEND
     go_upto_region 8 with fail
     rw [← htb, ← hab, ← hW2]
     clear hab htb hW2 c0 c1 c2 d0' d1' d2'
     go_upto_region 9 with fail
     all_goals
      have e0 := fun v => (HW3.out v).1
      have e1 := fun v => (HW3.out v).2.1
      have e2 := fun v => (HW3.out v).2.2
      go_upto_region 10 with fail
      clear e0 e1 e2
      have f0 := fun v u => (HW4.out v u).1
      have f1 := fun v u => (HW4.out v u).2.1
      have f2 := fun v u => (HW4.out v u).2.2.1
      have f3 := fun v u => (HW4.out v u).2.2.2
      go_wp2
      all_goals
       go_roundg (n - (k + 1))
       case measure => omega
       case rel =>
        exact ⟨k + 1, _, by go_num, by omega, Nat.le_refl _, HST, HE1, HE2.out _ _ _ (by omega) rfl (by omega), HE3.out _ _ _ (by omega) rfl (by omega), HE4.out _ _ _ (by omega) rfl (by omega)⟩
   · have hltz : ¬ (k : Int) < (n : Int) := by omega
     have hfin : behR s known = r := by
      rw [HRR.out, ← HFO.out, List.take_of_length_le (by have := HN.out; omega)]
     have HFIN : Hid (behR s known = r) := hfin
     clear hfin
     obtain ⟨r0', r1', r2', rz⟩ := HRC.out.facts
     obtain ⟨q0, q1, q2, qz⟩ := HQC.out.facts
     go_wp2
     try simp only [Exit.inBlock, Exit.then]
     have hq := ((HQC.out.set0 r.arcs).set1 r.words).set2 r.weight
     refine bodyPost_ret (beh_results rfl hq.facts.1 hq.facts.2.1 hq.facts.2.2.1) rfl ?_
     exact ⟨by rw [HFIN.out], ((HB.out.setCell (p := ⟨qb, 0, none⟩) HRQ.out.2.1 _).setCell (p := ⟨qb, 1, none⟩) HRQ.out.2.1 _).setCell (p := ⟨qb, 2, none⟩) HRQ.out.2.1 _⟩
end Go.Proofs.YtncnefpkfbngaaaGreatDoor

/- formed: each state by itself. -/
namespace Go.Proofs.YtncnefpkfbngaaaGreatDoor
open Go.RowKit Nums Fm Pk
set_option maxRecDepth 100000

theorem Pk.form_at {m : List RSt} {k : Nat} {s : RSt} (h : m[k]? = some s) : formB k (m.drop k) = (formS s k && formB (k + 1) (m.drop (k + 1))) := by
 obtain ⟨hk, rfl⟩ := List.getElem?_eq_some_iff.1 h
 rw [List.drop_eq_getElem_cons hk, formB]
set_option maxHeartbeats 4000000 in
theorem formed_any (E : Nat) (w : World) (m : List RSt) (vs : Value) (h : StsAt E w vs m) (hE : E ≤ w.heap.size) (hT : Tabs w) :
 Calls Tryz.prog 72 #[vs] w fun e w' => e = .returned (.bool (formB 0 m)) ∧ Below w.heap.size w w' := by
 obtain ⟨ad, cap, rfl⟩ := h.shape
 obtain ⟨n, hn⟩ : ∃ n, m.length = n := ⟨_, rfl⟩
 have HN : Hid (m.length = n) := hn
 have HR : Hid (StsAt E w (.slice ad m.length cap) m) := h
 have hl := h.len
 rw [hn] at HR hl ⊢
 have HT : Hid (Tabs w) := hT
 clear h hn hT
 go_enter Tryz.func72, Tryz.ntmps72
 go_wp2
 go_loopg [3, 4, 7] n (fun gm _ _ s7 wr => ∃ (k : Nat), s7 = .int .i64 k ∧ k ≤ n ∧ n - k ≤ gm ∧ Hid (formB 0 m = formB k (m.drop k)) ∧ Hid (Below w.heap.size w wr))
 case atStart => exact ⟨0, rfl, Nat.zero_le _, by omega, rfl, Below.refl _ _⟩
 case round =>
  obtain ⟨k, rfl, hk, hgm, HO, HB⟩ := hrel
  by_cases hlt : k < n
  · have hltz : (k : Int) < (n : Int) := by omega
    obtain ⟨s, hs⟩ : ∃ s, m[k]? = some s := ⟨m[k]'(by have := HN.out; omega), List.getElem?_eq_getElem _⟩
    have hRw := HR.out.below (HB.out.mono hE)
    obtain ⟨g, off, va, rfl, hg, c0, c1, c2, hA⟩ := hRw.at hs
    obtain ⟨vd, vc, hva⟩ := hA.shape
    obtain ⟨na, hna⟩ : ∃ na, s.arcs.length = na := ⟨_, rfl⟩
    rw [hna] at hva
    subst hva
    have HFA : Hid (formB 0 m = (formS s k && formB (k + 1) (m.drop (k + 1)))) := HO.out.trans (form_at hs)
    obtain ⟨sb, hsb⟩ : ∃ sb, sb = wr.heap.size := ⟨_, rfl⟩
    obtain ⟨W1, hW1⟩ : ∃ W1, W1 = wr.alloc (.cells #[.bool s.final, .int .i64 s.out, .slice vd na vc] 88) := ⟨_, rfl⟩
    have hn1 : W1.heap[sb]? = some (.cells #[.bool s.final, .int .i64 s.out, .slice vd na vc] 88) := by rw [hW1, hsb]; exact alloc_newP _ _
    have hb1 : Below wr.heap.size wr W1 := by rw [hW1]; exact (Below.refl _ wr).alloc (Nat.le_refl _) _
    have HBW : Hid (Below w.heap.size w W1) := HB.out.trans (hb1.mono HB.out.size)
    have HAt : Hid (ArcsAt E W1 (.slice vd na vc) s.arcs) := hA.below (hb1.mono (Nat.le_trans hE HB.out.size))
    have HCL : Hid (∀ W, Below W1.heap.size W1 W → W.cell? ⟨sb, 0, none⟩ = some (.bool s.final) ∧ W.cell? ⟨sb, 1, none⟩ = some (.int .i64 s.out) ∧ W.cell? ⟨sb, 2, none⟩ = some (.slice vd na vc)) := fun W hW => by
     have h1 : W.heap[sb]? = W1.heap[sb]? := hW.block sb (Array.getElem?_eq_some_iff.1 hn1).1
     exact ⟨by simp [World.cell?, h1, hn1], by simp [World.cell?, h1, hn1], by simp [World.cell?, h1, hn1]⟩
    have HE1 : Hid (E ≤ W1.heap.size) := Nat.le_trans hE HBW.out.size
    have HPL : Hid (Calls Tryz.prog 92 #[.agg #[.bool s.final, .int .i64 s.out, .slice vd na vc]] W1 fun e w' => e = .returned (.int .i64 (leastS s)) ∧ Below W1.heap.size W1 w') := pleast_any E W1 s _ HAt.out HE1.out
    have HOR : Hid (∀ W, Below W1.heap.size W1 W → Calls Tryz.prog 93 #[.slice vd na vc, .int .i64 k] W fun e w' => e = .returned (.bool (ordB k none s.arcs)) ∧ Below W1.heap.size W1 w') := fun W hW => by
     refine (ordered_any E W s.arcs _ k (HAt.out.below (hW.mono HE1.out)) (Nat.le_trans HE1.out hW.size) (HT.out.below (HBW.out.trans (hW.mono HBW.out.size)))).mono ?_
     rintro e w' ⟨rfl, h2⟩
     exact ⟨rfl, hW.trans (h2.mono hW.size)⟩
    obtain ⟨a0, a1, a2⟩ := HCL.out W1 (Below.refl _ _)
    clear hs hRw hA hna hn1 hb1 HO
    go_upto_region 4 with fail
    rw [← hsb, ← hW1]
    clear hsb hW1 c0 c1 c2
    unfold formS at HFA
    generalize leastS s = L at *
    generalize ordB (k : Int) none s.arcs = O at *
    generalize s.arcs = arcs at *
    generalize s.final = fn at *
    generalize s.out = ot at *
    by_cases h1 : fn = false ∧ ¬ ot = 0
    · obtain ⟨rfl, h1⟩ := h1
      have HF : Hid (formB 0 m = false) := by show _ = _; rw [HFA.out, decide_eq_false h1]; rfl
      have h1b : (ot == 0) = false := beq_eq_false_iff_ne.2 h1
      have h1n : (ot != 0) = true := by simp [bne, h1b]
      go_wp2
      go_ret
      exact ⟨by rw [HF.out]; rfl, HBW.out⟩
    · have h1x : (fn || decide (ot = 0)) = true := by
       cases fn with
       | true => rfl
       | false => simp only [Bool.false_or, decide_eq_true_eq]; exact Decidable.byContradiction fun h => h1 ⟨rfl, h⟩
      rw [h1x] at HFA
      clear h1
      cases fn with
      | true =>
       clear h1x
       by_cases hL : L = 0
       · subst hL
         cases O with
         | false =>
          have HF : Hid (formB 0 m = false) := by show _ = _; rw [HFA.out]; simp
          clear HFA
          go_wp2_with (first
           | (go_at_call 92; refine HPL.out.mono ?_; rintro e w2 ⟨rfl, hb2⟩; have HB2 : Hid (Below W1.heap.size W1 w2) := hb2; clear hb2; obtain ⟨p0, p1, p2⟩ := HCL.out w2 HB2.out)
           | (go_at_call 93; refine (HOR.out _ HB2.out).mono ?_; rintro e w3 ⟨rfl, hb3⟩; have HB3 : Hid (Below W1.heap.size W1 w3) := hb3; clear hb3))
          go_ret
          exact ⟨by rw [HF.out]; rfl, HBW.out.trans (HB3.out.mono HBW.out.size)⟩
         | true =>
          have HF : Hid (formB 0 m = formB (k + 1) (m.drop (k + 1))) := by show _ = _; rw [HFA.out]; simp
          clear HFA
          go_wp2_with (first
           | (go_at_call 92; refine HPL.out.mono ?_; rintro e w2 ⟨rfl, hb2⟩; have HB2 : Hid (Below W1.heap.size W1 w2) := hb2; clear hb2; obtain ⟨p0, p1, p2⟩ := HCL.out w2 HB2.out)
           | (go_at_call 93; refine (HOR.out _ HB2.out).mono ?_; rintro e w3 ⟨rfl, hb3⟩; have HB3 : Hid (Below W1.heap.size W1 w3) := hb3; clear hb3))
          go_roundg (n - (k + 1))
          case measure => omega
          case rel => exact ⟨k + 1, by go_num, by omega, Nat.le_refl _, HF, HBW.out.trans (HB3.out.mono HBW.out.size)⟩
       · have HF : Hid (formB 0 m = false) := by show _ = _; rw [HFA.out, decide_eq_false hL]; simp
         have h1b : (L == 0) = false := beq_eq_false_iff_ne.2 hL
         have h1n : (L != 0) = true := by simp [bne, h1b]
         clear HFA
         go_wp2_with (first
          | (go_at_call 92; refine HPL.out.mono ?_; rintro e w2 ⟨rfl, hb2⟩; have HB2 : Hid (Below W1.heap.size W1 w2) := hb2; clear hb2; obtain ⟨p0, p1, p2⟩ := HCL.out w2 HB2.out)
          | (go_at_call 93; refine (HOR.out _ HB2.out).mono ?_; rintro e w3 ⟨rfl, hb3⟩; have HB3 : Hid (Below W1.heap.size W1 w3) := hb3; clear hb3))
         go_ret
         exact ⟨by rw [HF.out]; rfl, HBW.out.trans (HB2.out.mono HBW.out.size)⟩
      | false =>
       have h0 : ot = 0 := by simpa using h1x
       subst h0
       clear h1x
       by_cases hL : L = 0
       · subst hL
         cases O with
         | false =>
          have HF : Hid (formB 0 m = false) := by show _ = _; rw [HFA.out]; simp
          clear HFA
          go_wp2_with (first
           | (go_at_call 92; refine HPL.out.mono ?_; rintro e w2 ⟨rfl, hb2⟩; have HB2 : Hid (Below W1.heap.size W1 w2) := hb2; clear hb2; obtain ⟨p0, p1, p2⟩ := HCL.out w2 HB2.out)
           | (go_at_call 93; refine (HOR.out _ HB2.out).mono ?_; rintro e w3 ⟨rfl, hb3⟩; have HB3 : Hid (Below W1.heap.size W1 w3) := hb3; clear hb3))
          go_ret
          exact ⟨by rw [HF.out]; rfl, HBW.out.trans (HB3.out.mono HBW.out.size)⟩
         | true =>
          have HF : Hid (formB 0 m = formB (k + 1) (m.drop (k + 1))) := by show _ = _; rw [HFA.out]; simp
          clear HFA
          go_wp2_with (first
           | (go_at_call 92; refine HPL.out.mono ?_; rintro e w2 ⟨rfl, hb2⟩; have HB2 : Hid (Below W1.heap.size W1 w2) := hb2; clear hb2; obtain ⟨p0, p1, p2⟩ := HCL.out w2 HB2.out)
           | (go_at_call 93; refine (HOR.out _ HB2.out).mono ?_; rintro e w3 ⟨rfl, hb3⟩; have HB3 : Hid (Below W1.heap.size W1 w3) := hb3; clear hb3))
          go_roundg (n - (k + 1))
          case measure => omega
          case rel => exact ⟨k + 1, by go_num, by omega, Nat.le_refl _, HF, HBW.out.trans (HB3.out.mono HBW.out.size)⟩
       · have HF : Hid (formB 0 m = false) := by show _ = _; rw [HFA.out, decide_eq_false hL]; simp
         have h1b : (L == 0) = false := beq_eq_false_iff_ne.2 hL
         have h1n : (L != 0) = true := by simp [bne, h1b]
         clear HFA
         go_wp2_with (first
          | (go_at_call 92; refine HPL.out.mono ?_; rintro e w2 ⟨rfl, hb2⟩; have HB2 : Hid (Below W1.heap.size W1 w2) := hb2; clear hb2; obtain ⟨p0, p1, p2⟩ := HCL.out w2 HB2.out)
          | (go_at_call 93; refine (HOR.out _ HB2.out).mono ?_; rintro e w3 ⟨rfl, hb3⟩; have HB3 : Hid (Below W1.heap.size W1 w3) := hb3; clear hb3))
         go_ret
         exact ⟨by rw [HF.out]; rfl, HBW.out.trans (HB2.out.mono HBW.out.size)⟩
  · have hltz : ¬ (k : Int) < (n : Int) := by omega
    have HE : Hid (formB 0 m = true) := by
     show _ = _
     rw [HO.out, List.drop_of_length_le (by have := HN.out; omega)]
     rfl
    go_wp2
    go_ret
    exact ⟨by rw [HE.out]; rfl, HB.out⟩
end Go.Proofs.YtncnefpkfbngaaaGreatDoor

/- bounded: no word too long, too heavy, nor too many. -/
namespace Go.Proofs.YtncnefpkfbngaaaGreatDoor
open Go.RowKit Nums Fm Pk
set_option maxRecDepth 100000

namespace Pk
theorem minF_low : ∀ (l : List RArc) (x : Int), minF x l ≤ x ∧ ∀ a ∈ l, minF x l ≤ a.out
 | [], x => ⟨Int.le_refl _, fun a ha => by cases ha⟩
 | a :: r, x => by
  obtain ⟨h1, h2⟩ := minF_low r (min x a.out)
  rw [minF]
  refine ⟨by omega, fun y hy => ?_⟩
  rcases List.mem_cons.1 hy with rfl | hy
  · omega
  · exact h2 y hy
theorem ord_facts : ∀ (l : List RArc) (n : Int) (p : Option Int), ordB n p l = true → (∀ a ∈ l, 0 ≤ a.to ∧ a.to < n ∧ wordR a.label = true) ∧ (∀ q, p = some q → q + l.length ≤ 1114111 ∨ l = []) ∧ (l = [] ∨ (0 ≤ (l.head?.map (·.label)).getD 0 ∧ (l.head?.map (·.label)).getD 0 + l.length ≤ 1114112))
 | [], _, _, _ => ⟨fun a ha => (by cases ha), fun q _ => .inr rfl, .inl rfl⟩
 | a :: r, n, p, h => by
  rw [ordB] at h
  simp only [Bool.and_eq_true, decide_eq_true_eq, Bool.not_eq_true'] at h
  obtain ⟨⟨⟨h1, h2⟩, h3⟩, h4⟩ := h
  obtain ⟨g1, g2, g3⟩ := ord_facts r n (some a.label) h4
  have hw : 0 ≤ a.label ∧ a.label < 1114112 := by
   unfold wordR at h2
   simp only [Bool.and_eq_true] at h2
   have := of_decide_eq_true h2.1
   exact ⟨this.1, this.2.1⟩
  have hlen : a.label + r.length ≤ 1114111 := by
   rcases g2 a.label rfl with h | h
   · exact h
   · rw [h]; simp only [List.length_nil]; omega
  refine ⟨fun x hx => ?_, fun q hq => ?_, .inr ?_⟩
  · rcases List.mem_cons.1 hx with rfl | hx
    · exact ⟨h3.1, h3.2, h2⟩
    · exact g1 x hx
  · subst hq
    simp only [Option.any_some, decide_eq_false_iff_not] at h1
    simp only [List.length_cons]
    left
    omega
  · simp only [List.head?_cons, Option.map_some, Option.getD_some, List.length_cons]
    omega
theorem form_facts {s : RSt} {k : Nat} (h : formS s k = true) : (∀ a ∈ s.arcs, 0 ≤ a.to ∧ a.to < (k : Int) ∧ 0 ≤ a.out) ∧ 0 ≤ s.out ∧ s.arcs.length ≤ 1114112 := by
 unfold formS at h
 simp only [Bool.and_eq_true, decide_eq_true_eq] at h
 obtain ⟨⟨h1, h2⟩, h3⟩ := h
 obtain ⟨g1, _, g3⟩ := ord_facts _ _ _ h3
 unfold leastS at h2
 obtain ⟨l1, l2⟩ := minF_low s.arcs (if s.final then s.out else 9223372036854775807)
 refine ⟨fun a ha => ⟨(g1 a ha).1, (g1 a ha).2.1, by have := l2 a ha; omega⟩, ?_, ?_⟩
 · cases hf : s.final with
   | true => rw [hf, if_pos rfl] at l1 h2; omega
   | false => rw [hf] at h1; simp only [Bool.false_or, decide_eq_true_eq] at h1; omega
 · rcases g3 with h | h
   · rw [h]; decide
   · omega
theorem form_get : ∀ (m : List RSt) (i k : Nat) (s : RSt), formB i m = true → m[k]? = some s → formS s (i + k) = true
 | [], _, _, _, _, h => by simp at h
 | x :: r, i, 0, s, h, hk => by
  rw [formB, Bool.and_eq_true] at h
  simp only [List.getElem?_cons_zero, Option.some.injEq] at hk
  rw [← hk]
  exact h.1
 | x :: r, i, k + 1, s, h, hk => by
  rw [formB, Bool.and_eq_true] at h
  have := form_get r (i + 1) k s h.2 (by simpa using hk)
  rwa [show i + 1 + k = i + (k + 1) by omega] at this
theorem beh_nn {known : List Pk.Reach} (hk : ∀ r ∈ known, KnOk r) : ∀ (l : List RArc) (r : Pk.Reach), 0 ≤ r.arcs ∧ 0 ≤ r.words ∧ 0 ≤ r.weight → 0 ≤ (l.foldl (stepR known) r).arcs ∧ 0 ≤ (l.foldl (stepR known) r).words ∧ 0 ≤ (l.foldl (stepR known) r).weight
 | [], r, h => h
 | a :: l, r, h => by
  rw [List.foldl_cons]
  refine beh_nn hk l _ ?_
  have hw : 0 ≤ (known.getD a.to.toNat ⟨0, 0, 0⟩).words := by
   rw [List.getD_eq_getElem?_getD]
   cases hg : known[a.to.toNat]? with
   | none => exact Int.le_refl _
   | some T => exact (hk T (List.mem_of_getElem? hg)).w0
  unfold stepR
  simp only
  omega
theorem beh_ok {s : RSt} {known : List Pk.Reach} {base : Int} (hb : 1 ≤ base) (hk : ∀ r ∈ known, KnOk r) (h0 : 0 ≤ s.out) (h : okR base (behR s known) = true) : KnOk (behR s known) := by
 have h1 : 0 ≤ (behR s known).arcs ∧ 0 ≤ (behR s known).words ∧ 0 ≤ (behR s known).weight := by
  unfold behR
  refine beh_nn hk s.arcs _ ?_
  split
  · exact ⟨by simp, by simp, h0⟩
  · exact ⟨by simp, by simp, by simp⟩
 have h2 := of_decide_eq_true h
 exact ⟨h1.1, h2.1, h1.2.1, h2.2.1, h1.2.2, by omega⟩
theorem bnd_at {base : Int} {known : List Pk.Reach} {m : List RSt} {k : Nat} {s : RSt} (h : m[k]? = some s) : bndB base known (m.drop k) = (okR base (behR s known) && bndB base (known ++ [behR s known]) (m.drop (k + 1))) := by
 obtain ⟨hk, rfl⟩ := List.getElem?_eq_some_iff.1 h
 rw [List.drop_eq_getElem_cons hk, bndB]
end Pk
/-- While states are gone through. -/
structure BLoop (w wr : World) (base : Int) (m : List RSt) (mb : Nat) (vs vk : Value) (known : List Pk.Reach) (k : Nat) : Prop where
 bel : Below w.heap.size w wr
 row : GOwn 155 3 w.heap.size wr vk (known.map cellsR)
 len : known.length = k
 ok : ∀ r ∈ known, KnOk r
 eq : bndB base [] m = bndB base known (m.drop k)
 mac : wr.heap[mb]? = some (.cells #[.int .i64 base, vs] 63)
set_option maxHeartbeats 4000000 in
theorem bounded_any (E : Nat) (w : World) (base : Int) (m : List RSt) (vs : Value) (h : StsAt E w vs m) (hE : E ≤ w.heap.size) (hb1 : 1 ≤ base) (hb2 : base ≤ 1048576) (hF : formB 0 m = true) (hm : m.length ≤ 1048576) :
 Calls Tryz.prog 73 #[.agg #[.int .i64 base, vs]] w fun e w' => e = .returned (.bool (bndB base [] m)) ∧ Below w.heap.size w w' := by
 obtain ⟨ad, cap, rfl⟩ := h.shape
 obtain ⟨n, hn⟩ : ∃ n, m.length = n := ⟨_, rfl⟩
 have HN : Hid (m.length = n) := hn
 have HR : Hid (StsAt E w (.slice ad m.length cap) m) := h
 rw [hn] at HR hm ⊢
 clear h hn
 go_enter Tryz.func73, Tryz.ntmps73
 have HFM : Hid (formB 0 m = true) := hF
 obtain ⟨mb, hmb⟩ : ∃ mb, mb = w.heap.size := ⟨_, rfl⟩
 obtain ⟨W0, hW0⟩ : ∃ W0, W0 = w.alloc (.cells #[.int .i64 base, .slice ad n cap] 63) := ⟨_, rfl⟩
 have HS0 : Hid (BLoop w W0 base m mb (.slice ad n cap) (.slice none 0 0) [] 0) := ⟨by rw [hW0]; exact (Below.refl _ w).alloc (Nat.le_refl _) _, GOwn.nil _ _ _ _, rfl, fun r hr => (by cases hr), rfl, by rw [hW0, hmb]; exact alloc_newP _ _⟩
 have HMB : Hid (mb = w.heap.size) := hmb
 clear hF
 go_wp2
 rw [← hW0, ← hmb]
 clear hW0 hmb
 go_loopg [3, 5, 6, 10] n (fun gm s3 _ _ s10 wr => ∃ (k : Nat) (known : List Pk.Reach) (kd : Option Addr) (kc : Nat), s10 = .int .i64 k ∧ k ≤ n ∧ n - k ≤ gm ∧ s3 = .slice kd k kc ∧ Hid (BLoop w wr base m mb (.slice ad n cap) (.slice kd k kc) known k))
 case atStart => exact ⟨0, [], none, 0, rfl, Nat.zero_le _, by omega, rfl, HS0⟩
 case round =>
  obtain ⟨k, known, kd, kc, rfl, hk, hgm, rfl, HL⟩ := hrel
  by_cases hlt : k < n
  · have hltz : (k : Int) < (n : Int) := by omega
    obtain ⟨s, hs⟩ : ∃ s, m[k]? = some s := ⟨m[k]'(by have := HN.out; omega), List.getElem?_eq_getElem _⟩
    obtain ⟨g, off, va, rfl, hg, c0, c1, c2, hA⟩ := (HR.out.below (HL.out.bel.mono hE)).at hs
    obtain ⟨vd, vc, hva⟩ := hA.shape
    obtain ⟨na, hna⟩ : ∃ na, s.arcs.length = na := ⟨_, rfl⟩
    rw [hna] at hva
    subst hva
    have hFS := form_get m 0 k s HFM.out hs
    rw [Nat.zero_add] at hFS
    obtain ⟨q1, q2, q3⟩ := form_facts hFS
    have hEq : bndB base [] m = (okR base (behR s known) && bndB base (known ++ [behR s known]) (m.drop (k + 1))) := HL.out.eq.trans (bnd_at hs)
    have hso := HR.out.ok s (List.mem_of_getElem? hs)
    obtain ⟨W1, hW1⟩ : ∃ W1, W1 = wr.alloc (.cells #[.bool s.final, .int .i64 s.out, .slice vd na vc] 88) := ⟨_, rfl⟩
    obtain ⟨sb, hsb⟩ : ∃ sb, sb = wr.heap.size := ⟨_, rfl⟩
    have hn1 : W1.heap[sb]? = some (.cells #[.bool s.final, .int .i64 s.out, .slice vd na vc] 88) := by rw [hW1, hsb]; exact alloc_newP _ _
    have a0 : W1.cell? ⟨sb, 0, none⟩ = some (.bool s.final) := by simp [World.cell?, hn1]
    have a1 : W1.cell? ⟨sb, 1, none⟩ = some (.int .i64 s.out) := by simp [World.cell?, hn1]
    have a2 : W1.cell? ⟨sb, 2, none⟩ = some (.slice vd na vc) := by simp [World.cell?, hn1]
    have hb1' : Below wr.heap.size wr W1 := by rw [hW1]; exact (Below.refl _ wr).alloc (Nat.le_refl _) _
    have HB1 : Hid (Below wr.heap.size wr W1) := hb1'
    have hEw : E ≤ wr.heap.size := Nat.le_trans hE HL.out.bel.size
    have hA1 := hA.below (hb1'.mono hEw)
    have hK1 : GRow W1.heap.size 3 W1 (.slice kd k kc) (known.map cellsR) := (HL.out.row.below hb1').reads
    have HBH : Hid (Calls Tryz.prog 94 #[.agg #[.bool s.final, .int .i64 s.out, .slice vd na vc], .slice kd k kc] W1 fun e w' => e = .returned (.agg #[.int .i64 (behR s known).arcs, .int .i64 (behR s known).words, .int .i64 (behR s known).weight]) ∧ Below W1.heap.size W1 w') :=
     behind_any W1.heap.size W1 s _ _ known ⟨hA1.row.mono (Nat.le_trans hEw hb1'.size), hA1.ok, hA1.len⟩ hK1 (Nat.le_refl _) (fun a ha => by have := q1 a ha; rw [HL.out.len]; exact this) HL.out.ok q3 hso.2 q2
    have HKO : Hid (okR base (behR s known) = true → KnOk (behR s known)) := beh_ok hb1 HL.out.ok q2
    have HEQ : Hid (bndB base [] m = (okR base (behR s known) && bndB base (known ++ [behR s known]) (m.drop (k + 1)))) := hEq
    clear hs hA hFS q1 q2 q3 hEq hso hb1' hA1 hK1 hna HS0
    generalize behR s known = R at *
    clear hn1
    go_upto_region 5 with fail
    rw [← hW1, ← hsb]
    clear hW1 hsb c0 c1 c2
    go_upto_region 6 with (go_at_call 94; refine HBH.out.mono ?_; rintro e w2 ⟨rfl, hb2'⟩; have HB2 : Hid (Below W1.heap.size W1 w2) := hb2'; clear hb2')
    obtain ⟨rb, hrb⟩ : ∃ rb, rb = w2.heap.size := ⟨_, rfl⟩
    obtain ⟨w3, hw3⟩ : ∃ w3, w3 = w2.alloc (.cells #[.int .i64 R.arcs, .int .i64 R.words, .int .i64 R.weight] 155) := ⟨_, rfl⟩
    have hb3 : Below w2.heap.size w2 w3 := by rw [hw3]; exact (Below.refl _ w2).alloc (Nat.le_refl _) _
    have hr3 : RcBlk rb R w3 := ⟨by rw [hw3, hrb]; exact alloc_newP _ _⟩
    have hb03 : Below wr.heap.size wr w3 := HB1.out.trans ((HB2.out.trans (hb3.mono HB2.out.size)).mono HB1.out.size)
    have hmac : w3.heap[mb]? = some (.cells #[.int .i64 base, .slice (some ⟨g, off, none⟩) n cap] 63) := (hb03.block mb (Array.getElem?_eq_some_iff.1 HL.out.mac).1).trans HL.out.mac
    have HBW : Hid (Below w.heap.size w w3) := HL.out.bel.trans (hb03.mono HL.out.bel.size)
    have HOW : Hid (GOwn 155 3 w.heap.size w3 (.slice kd k kc) (known.map cellsR)) := HL.out.row.below hb03
    have HMAC : Hid (w3.heap[mb]? = some (.cells #[.int .i64 base, .slice (some ⟨g, off, none⟩) n cap] 63)) := hmac
    have hm0 : w3.cell? ⟨mb, 0, none⟩ = some (.int .i64 base) := by simp [World.cell?, hmac]
    obtain ⟨r0, r1, r2, _⟩ := hr3.facts
    rw [← hrb, ← hw3]
    clear a0 a1 a2 hrb hw3 hb3 hr3 hb03 hmac
    by_cases hA : 24 < R.arcs
    · have HF : Hid (bndB base [] m = false) := by show _ = _; rw [HEQ.out, okR, decide_eq_false (by omega)]; rfl
      clear HEQ HKO
      go_wp2
      go_ret
      exact ⟨by rw [HF.out]; rfl, HBW.out⟩
    · by_cases hW : 4096 < R.words
      · have HF : Hid (bndB base [] m = false) := by show _ = _; rw [HEQ.out, okR, decide_eq_false (by omega)]; rfl
        clear HEQ HKO
        go_wp2
        go_ret
        exact ⟨by rw [HF.out]; rfl, HBW.out⟩
      · by_cases hG : 1048576 - base < R.weight
        · have HF : Hid (bndB base [] m = false) := by show _ = _; rw [HEQ.out, okR, decide_eq_false (by omega)]; rfl
          clear HEQ HKO
          go_wp2
          go_ret
          exact ⟨by rw [HF.out]; rfl, HBW.out⟩
        · have hok : okR base R = true := by rw [okR, decide_eq_true (by omega)]
          have HF : Hid (bndB base [] m = bndB base (known ++ [R]) (m.drop (k + 1))) := by show _ = _; rw [HEQ.out, hok]; rfl
          have HKR : Hid (KnOk R) := HKO.out hok
          have HLN : Hid ((known.map cellsR).length < 1099511627776) := by show _ < _; rw [List.length_map, HL.out.len]; omega
          have HBS : Hid (w.heap.size ≤ w3.heap.size) := HBW.out.size
          clear HEQ HKO hok
          go_wp2_with (at_builtin; refine append_g rtyRc (by rfl) _ _ [.int .i64 R.arcs, .int .i64 R.words, .int .i64 R.weight] _ rfl w.heap.size _ _ _ _ rfl HOW.out rfl rfl (cellsR_ok R) HLN.out HBS.out ?_; intro v5 w5 ho5 hb5 hg5; obtain ⟨d5, e5, hv5, _⟩ := ho5.shape; rw [List.length_append, List.length_map, HL.out.len] at hv5; simp only [List.length_singleton] at hv5; subst hv5; have HO5 : Hid _ := ho5; have HB5 : Hid _ := hb5; have HG5 : Hid _ := hg5; clear ho5 hb5 hg5)
          have HNX : Hid (BLoop w w5 base m mb (.slice (some ⟨g, off, none⟩) n cap) (.slice d5 (k + 1) e5) (known ++ [R]) (k + 1)) := by
           refine ⟨HBW.out.trans (HB5.out.mono (Nat.le_refl _)), ?_, by rw [List.length_append, HL.out.len]; rfl, fun r hr => ?_, HF.out, ?_⟩
           · rw [List.map_append]
             exact HO5.out
           · rcases List.mem_append.1 hr with h | h
             · exact HL.out.ok r h
             · rw [List.mem_singleton.1 h]
               exact HKR.out
           · have hlt3 := (Array.getElem?_eq_some_iff.1 HMAC.out).1
             refine (HG5.out.block mb (by simp; omega) (fun e => ?_)).trans (((MapKept.heap_alloc _ _).2 mb hlt3).trans HMAC.out)
             obtain ⟨_, cur, hc⟩ := GOwn.block HOW.out e.symm
             rw [HMAC.out] at hc
             simp only [Option.some.injEq, Obj.cells.injEq] at hc
             exact absurd hc.2.1 (by decide)
          go_roundg (n - (k + 1))
          case measure => omega
          case rel => exact ⟨k + 1, _, _, _, by go_num, by omega, Nat.le_refl _, rfl, HNX⟩
  · have hltz : ¬ (k : Int) < (n : Int) := by omega
    have HE : Hid (bndB base [] m = true) := by
     show _ = _
     rw [HL.out.eq, List.drop_of_length_le (by have := HN.out; omega)]
     rfl
    go_wp2
    go_ret
    exact ⟨by rw [HE.out]; rfl, HL.out.bel⟩
end Go.Proofs.YtncnefpkfbngaaaGreatDoor

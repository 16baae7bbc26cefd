/- Texts that were written apart, joined. -/
import Derived.Test.YthecngkdmnadoaaGreatG21
import Derived.Test.YthecngkdmnadoaaGreatWalB
import Derived.Test.YthecngkdmnadoaaGreatWalTi2
/- The numbers of the segments on a disk: numbersOn. -/
namespace Go.Proofs.YthecngkdmnadoaaGreat
open Go.RowKit Go.Lib
set_option maxRecDepth 100000

/-- A row of numbers that the call made. -/
def NOwn (B : Nat) (w : World) (v : Value) (xs : List Int) : Prop := w.ownsRow B 22 1 v xs.length (xs.map (Value.int .u64))
theorem append_n {w : World} {ops : Array Oper} {rest : List Oper} {o : Oper} {a : Act} {Q : Exit → Act → World → Prop} (hgd : o.guard = none) (s x : Operand)
    (ho : o.op = .call { callee := .builtin .append, args := #[s, x], argTypes := #[63, 63] }) (B : Nat) (v : Value) (xs : List Int) (y : Int)
    (hs : a.eval s = v) (hown : NOwn B w v xs) (g c : Nat) (hx : a.eval x = .slice (some ⟨g, 0, none⟩) 1 c) (h1 : w.cell? ⟨g, 0, none⟩ = some (.int .u64 y)) (hl : xs.length ≤ 1099511627777) (hB : B ≤ w.heap.size)
    (h : ∀ v' w', NOwn B w' v' (xs ++ [y]) → Below B w w' → wpList Tryz.prog ops Q rest (a.put o.dst v') w') : wpList Tryz.prog ops Q (o :: rest) a w := by
  obtain ⟨i0, hi, hz0, hz1, hz2⟩ := info_parts uintT
  refine wpList_append_own w hgd s x 63 ho B 22 i0 _ 1 8 Tryz.underlying63 hi hz0 hz1 hz2 rfl (by decide) v xs.length _ hs hown ⟨g, 0, none⟩ 1 c [.int .u64 y] hx rfl ?_ ?_ (by unfold maxLen; omega) (by omega) hB ?_
  · intro j u hj
    match j, hj with
    | 0, hj => simp at hj; rw [← hj]; exact h1
    | j + 1, hj => simp at hj
  · intro u hu
    simp at hu
    rw [hu]; rfl
  · intro v' w' h5 h6 _
    refine h v' w' ?_ ((Below.refl B w).grown h6 hB (fun k hk => (World.ownsRow.lt hown k hk).1))
    unfold NOwn
    rw [List.map_append, List.length_append]
    exact h5
theorem NOwn.alloc {B : Nat} {w : World} {v : Value} {xs : List Int} (h : NOwn B w v xs) (o : Obj) : NOwn B (w.alloc o) v xs := by
  obtain ⟨hl, hn | ⟨g, cap, cur, rfl, h1, hg, h2⟩⟩ := h
  · exact ⟨hl, .inl hn⟩
  · exact ⟨hl, .inr ⟨g, cap, cur, rfl, h1, (alloc_old w o (Array.getElem?_eq_some_iff.1 hg).1).trans hg, h2⟩⟩
theorem NOwn.drewN {B : Nat} {w : World} {v : Value} {xs : List Int} (h : NOwn B w v xs) (n : Nat) : NOwn B (w.drewN n) v xs := h

/-- The numbers of the areas that are segments. -/
def numsOf (xs : List Int) : List Int := (xs.filter fun a => a.tmod 4 == 1).map fun a => a.tdiv 4
theorem numsOf_succ (xs : List Int) (i : Nat) (x : Int) (h : xs[i]? = some x) : numsOf (xs.take (i + 1)) = numsOf (xs.take i) ++ (if x.tmod 4 == 1 then [x.tdiv 4] else []) := by
  unfold numsOf
  rw [List.take_add_one, h, Option.toList_some, List.filter_append, List.map_append]
  congr 1
  by_cases h : (x.tmod 4 == 1) = true
  · simp [List.filter, h]
  · simp [List.filter, h]
structure NumR (w w1 : World) (xs : List Int) (v3 v4 : Value) (wr : World) (i : Nat) : Prop where
  e4 : v4 = .int .i64 i
  hi : i ≤ xs.length
  own : NOwn w1.heap.size wr v3 (numsOf (xs.take i))
  below : Below w1.heap.size w1 wr
theorem own_mono {w : World} {base base' : Nat} {e : TypeId} {size : Nat} {v : Value} {n : Nat} {xs : List Value} (h : w.ownsRow base e size v n xs) (hb : base' ≤ base) : w.ownsRow base' e size v n xs :=
  ⟨h.1, h.2.imp id fun ⟨g, cap, cur, h1, h2, h3⟩ => ⟨g, cap, cur, h1, Nat.le_trans hb h2, h3⟩⟩
theorem areas_le (S : List Sec) : (areasS S).length ≤ S.length := by
  unfold areasS Lib.compact compactUpTo
  rw [List.length_map]
  exact Nat.le_trans (List.length_filter_le _ _) (by simp)
theorem NOwn.shape {B : Nat} {w : World} {v : Value} {xs : List Int} (h : NOwn B w v xs) : ∃ ad cap, v = .slice ad xs.length cap := by
  obtain ⟨hl, ⟨e, h0⟩ | ⟨g, cap, cur, rfl, _⟩⟩ := h
  · exact ⟨none, 0, by rw [e, h0]⟩
  · exact ⟨_, cap, rfl⟩
theorem new_cell (w : World) (v : Value) (t : TypeId) : (w.alloc (.cells #[v] t)).cell? ⟨w.heap.size, 0, none⟩ = some v := by simp
theorem NumRow.at {w : World} {s : Value} {xs : List Int} (h : NumRow w s xs) {i : Nat} {x : Int} (hx : xs[i]? = some x) : ∃ g cap, s = .slice (some ⟨g, 0, none⟩) xs.length cap ∧ w.cell? ⟨g, i, none⟩ = some (.int .u64 x) := by
  rcases h with ⟨rfl, rfl⟩ | ⟨g, cap, rfl, hg, hc⟩
  · cases hx
  · exact ⟨g, cap, rfl, hc i _ (by rw [List.getElem?_map, hx]; rfl)⟩
set_option maxHeartbeats 2000000 in
theorem numbersOn_any (N : Nat) (p : Nat) (d : DS) (fp : List Nat) (w : World) (h : DiskAt N w p d fp) (hN : N < 1099511627776) (hok : ∀ a ∈ areasS d.secs, 0 ≤ a ∧ a < 18446744073709551616) :
    Calls Tryz.prog 37 #[.pointer (some ⟨p, 0, none⟩)] w fun e w' => ∃ v, e = .returned v ∧ NOwn w.heap.size w' v (numsOf (areasS d.secs)) ∧ Below w.heap.size w w' := by
  have HA : Hid (Calls Tryz.prog 31 #[.pointer (some ⟨p, 0, none⟩)] w fun e w' => ∃ v, e = .returned v ∧ NumRow w' v (areasS d.secs) ∧ Below w.heap.size w w') := Areas_any N p d fp w h hN
  have hlx : (areasS d.secs).length ≤ N := Nat.le_trans (areas_le _) h.bounds.2.2.2.2.1
  obtain ⟨xs, hxs⟩ : ∃ xs, areasS d.secs = xs := ⟨_, rfl⟩
  rw [hxs] at HA hlx hok
  rw [hxs]
  have HOK : Hid (∀ a ∈ xs, 0 ≤ a ∧ a < 18446744073709551616) := hok
  have hB0 : Below w.heap.size w w := Below.refl _ w
  clear h hxs hok
  go_enter Tryz.func37, Tryz.ntmps37
  go_wp2_with (go_at_call 31; refine HA.out.mono ?_; rintro e w1 ⟨v, rfl, hr1, hB1⟩; obtain ⟨ad, cap, rfl⟩ := hr1.form)
  have HR : Hid (NumRow w1 (.slice ad xs.length cap) xs) := hr1
  have HB1 : Hid (Below w.heap.size w w1) := hB1
  have hs1 := hB1.size
  obtain ⟨len, hlen⟩ : ∃ len, xs.length = len := ⟨_, rfl⟩
  have HL : Hid (xs.length = len) := hlen
  rw [hlen] at hlx
  clear HA hB1 hr1 hB0
  simp only [hlen]
  clear hlen
  go_loopw [3, 9] (fun v3 v9 wr => ∃ i, NumR w w1 xs v3 v9 wr i) (fun _ v9 _ => len - (intOf v9).toNat)
  case atStart => exact ⟨0, rfl, Nat.zero_le _, World.ownsRow_nil _ _ _ _, Below.refl _ _⟩
  case round =>
    obtain ⟨i, hI⟩ := hrel
    have HI : Hid (NumR w w1 xs _ _ wr i) := hI
    obtain ⟨rfl, hi, hown, hbw⟩ := hI
    rw [HL.out] at hi
    by_cases hin : i < len
    · obtain ⟨x, hx⟩ : ∃ x, xs[i]? = some x := ⟨_, List.getElem?_eq_getElem (by rw [HL.out]; exact hin)⟩
      obtain ⟨g, cap', e1, hc⟩ := (HR.out.below hbw).at hx
      simp only [Value.slice.injEq] at e1
      obtain ⟨rfl, -, rfl⟩ := e1
      have HC : Hid (numsOf (xs.take (i + 1)) = numsOf (xs.take i) ++ (if x.tmod 4 == 1 then [x.tdiv 4] else [])) := numsOf_succ xs i x hx
      obtain ⟨ys, hys⟩ : ∃ ys, numsOf (xs.take i) = ys := ⟨_, rfl⟩
      have hyl : ys.length ≤ i := by
        rw [← hys]
        unfold numsOf
        rw [List.length_map]
        exact Nat.le_trans (List.length_filter_le _ _) (by simp; omega)
      rw [hys] at hown HC
      obtain ⟨hx0, hx1⟩ := HOK.out x (List.mem_of_getElem? hx)
      have hw1 : IntKind.u64.wrap (x.tmod 4) = x.tmod 4 := by rw [Int.tmod_eq_emod_of_nonneg hx0]; simp [IntKind.wrap, IntKind.bits, IntKind.signed]; omega
      have hw2 : IntKind.u64.wrap (x.tdiv 4) = x.tdiv 4 := by rw [Int.tdiv_eq_ediv_of_nonneg hx0]; simp [IntKind.wrap, IntKind.bits, IntKind.signed]; omega
      obtain ⟨av, ac, rfl⟩ := hown.shape
      have HO : Hid (NOwn w1.heap.size wr (.slice av ys.length ac) ys) := hown
      have hbs := hbw.size
      clear hown hbw hx hys
      by_cases hm : x.tmod 4 = 1
      · have hmb : (x.tmod 4 == 1) = true := by simpa using hm
        rw [if_pos hmb] at HC
        go_wp2_with (at_builtin; refine append_n rfl _ _ rfl w1.heap.size _ ys (x.tdiv 4) rfl (HO.out.alloc _) _ _ rfl (new_cell wr _ _) (by omega) (by simp; omega) ?_; intro v' w' ho' hb'; obtain ⟨bv2, bc2, rfl⟩ := ho'.shape; have HO2 : Hid (NOwn w1.heap.size w' (.slice bv2 (ys ++ [x.tdiv 4]).length bc2) (ys ++ [x.tdiv 4])) := ho'; have HB : Hid (Below w1.heap.size wr w') := ((Below.refl _ wr).alloc hbs _).trans hb'; clear ho' hb')
        go_roundw
        case rel => exact ⟨i + 1, by go_num, by rw [HL.out]; omega, by rw [HC.out]; simpa using HO2.out, HI.out.below.trans HB.out⟩
        case measure => simp [intOf]; omega
      · have hmb : (x.tmod 4 == 1) = false := by simpa using hm
        rw [hmb, if_neg (by decide), List.append_nil] at HC
        have hme : (x % 4 == 1) = false := by
          rw [Int.tmod_eq_emod_of_nonneg hx0] at hm
          simpa using hm
        go_wp2_with fail
        go_roundw
        case rel => exact ⟨i + 1, by go_num, by rw [HL.out]; omega, by rw [HC.out]; exact HO.out, HI.out.below⟩
        case measure => simp [intOf]; omega
    · have : i = len := by omega
      subst this
      have HT : Hid (numsOf (xs.take i) = numsOf xs) := by show _ = _; rw [List.take_of_length_le (Nat.le_of_eq HL.out)]
      go_wp2_with fail
      go_ret
      exact ⟨_, rfl, by rw [← HT.out]; exact own_mono HI.out.own hs1, HB1.out.trans (HI.out.below.mono hs1)⟩
end Go.Proofs.YthecngkdmnadoaaGreat

/- Open: what it comes to. -/
namespace Go.Proofs.YthecngkdmnadoaaGreat
open Go.RowKit
set_option maxRecDepth 100000

/-- The numbers of the segments on a disk. -/
def numsN (d : DS) : List Nat := (numsOf (areasS d.secs)).map Int.toNat
/-- The number of the segment that is begun next. -/
def nextN (d : DS) (fr : Nat) : Nat := match (numsN d).getLast? with
  | none => fr
  | some x => max fr (x + 1)
def takesG (fr : Nat) : LG → List Nat → Int × LG
  | g, [] => (0, g)
  | g, n :: r => if n < fr then takesG fr g r else if ¬ (takeG g n).1 = 0 then takeG g n else takesG fr (takeG g n).2 r
def startG (d : DS) (fr first : Nat) : LG := ⟨d, first, nextN d fr, 4 * nextN d fr + 1, 0, false, 0, [], [], []⟩
def openG (d : DS) (fr first : Nat) : Int × LG :=
  if d.dead = true then (30, startG d fr first)
  else if 1152921504606846976 < nextN d fr ∨ 4611686018427387904 < first then (52, startG d fr first)
  else if ¬ (takesG fr (startG d fr first) (numsN d)).1 = 0 then takesG fr (startG d fr first) (numsN d)
  else tidyG (takesG fr (startG d fr first) (numsN d)).2 (numsN d)
/-- What take leaves as it was. -/
structure TkOk (g g2 : LG) (n : Nat) : Prop where
  d : g2.d = g.d
  next : g2.next = g.next
  area : g2.area = g.area
  sector : g2.sector = g.sector
  tl : g2.tl = g.tl
  adrift : g2.adrift = g.adrift
  fault : g2.fault = g.fault
  first : g.first ≤ 4611686018427387904 → g2.first ≤ 4611686018427387904
  L : g2.L.length ≤ g.L.length + 4200000
  l : g2.l = g.l ∨ ∃ ix, g2.l = g.l ++ [(n, ix)]
theorem recsR_ok : ∀ (f : Nat) (g : LG) (xs : List Nat), (recsR f g xs).2.d = g.d ∧ (recsR f g xs).2.next = g.next ∧ (recsR f g xs).2.area = g.area ∧ (recsR f g xs).2.sector = g.sector ∧ (recsR f g xs).2.tl = g.tl ∧ (recsR f g xs).2.adrift = g.adrift ∧ (recsR f g xs).2.fault = g.fault ∧ (recsR f g xs).2.first = g.first ∧ (recsR f g xs).2.L.length ≤ g.L.length + f ∧ (recsR f g xs).2.l = g.l
  | 0, g, _ => ⟨rfl, rfl, rfl, rfl, rfl, rfl, rfl, rfl, Nat.le_refl _, rfl⟩
  | f + 1, g, xs => by
    by_cases h : (bytesR xs 0 512).2.2 = 0
    · by_cases h2 : g.first + g.L.length = 4611686018427387904
      · rw [recsR_full h h2]
        exact ⟨rfl, rfl, rfl, rfl, rfl, rfl, rfl, rfl, Nat.le_add_right _ _, rfl⟩
      · rw [recsR_go h h2]
        obtain ⟨a1, a2, a3, a4, a5, a6, a7, a8, a9, a10⟩ := recsR_ok f { g with L := g.L ++ [(bytesR xs 0 512).1] } (bytesR xs 0 512).2.1
        refine ⟨a1, a2, a3, a4, a5, a6, a7, a8, ?_, a10⟩
        simp only [List.length_append, List.length_singleton] at a9
        omega
    · rw [recsR_end h]
      exact ⟨rfl, rfl, rfl, rfl, rfl, rfl, rfl, rfl, Nat.le_add_right _ _, rfl⟩
theorem takeG_ok (g : LG) (n : Nat) (hB : ∀ i u, curOf g.d.secs ((4 * n + 1 : Nat) : Int) i = some u → ∀ y ∈ u, y < 256) : TkOk g (takeG g n).2 n := by
  have hT : ∀ y ∈ textS g.d.secs ((4 * n + 1 : Nat) : Int), y < 256 := textF_byte hB _ _
  have hTl : (textS g.d.secs ((4 * n + 1 : Nat) : Int)).length ≤ 4128768 := Nat.le_trans (textF_len _ _) (by decide)
  have hix := askR_most hT
  have hrl := askR_rest (textS g.d.secs ((4 * n + 1 : Nat) : Int))
  unfold takeG
  split
  · exact ⟨rfl, rfl, rfl, rfl, rfl, rfl, rfl, id, Nat.le_add_right _ _, .inl rfl⟩
  · split
    · exact ⟨rfl, rfl, rfl, rfl, rfl, rfl, rfl, id, Nat.le_add_right _ _, .inl rfl⟩
    · obtain ⟨ix, rest, ae, hA⟩ : ∃ ix rest ae, askR (textS g.d.secs ((4 * n + 1 : Nat) : Int)) = (ix, rest, ae) := ⟨_, _, _, rfl⟩
      rw [hA] at hix hrl ⊢
      dsimp only at hix hrl ⊢
      obtain ⟨a1, a2, a3, a4, a5, a6, a7, a8, a9, a10⟩ := recsR_ok (rest.length + 1) (headR g n ix) rest
      have hh : (headR g n ix).d = g.d ∧ (headR g n ix).next = g.next ∧ (headR g n ix).area = g.area ∧ (headR g n ix).sector = g.sector ∧ (headR g n ix).tl = g.tl ∧ (headR g n ix).adrift = g.adrift ∧ (headR g n ix).fault = g.fault ∧ ((headR g n ix).first = ix ∨ (headR g n ix).first = g.first) ∧ (headR g n ix).L.length ≤ g.L.length ∧ (headR g n ix).l = g.l ++ [(n, ix)] := by
        unfold headR
        split
        · exact ⟨rfl, rfl, rfl, rfl, rfl, rfl, rfl, .inl rfl, Nat.zero_le _, rfl⟩
        · exact ⟨rfl, rfl, rfl, rfl, rfl, rfl, rfl, .inr rfl, by simp only [List.length_take]; omega, rfl⟩
      obtain ⟨b1, b2, b3, b4, b5, b6, b7, b8, b9, b10⟩ := hh
      exact ⟨a1.trans b1, a2.trans b2, a3.trans b3, a4.trans b4, a5.trans b5, a6.trans b6, a7.trans b7, fun h => by rcases b8 with h8 | h8 <;> omega, by omega, .inr ⟨ix, a10.trans b10⟩⟩
/-- What is small of a log that is being opened, behind i segments. -/
structure OpOk (d : DS) (nx : Nat) (i : Nat) (g : LG) : Prop where
  d : g.d = d
  next : g.next = nx
  sector : g.sector = 0
  tl : g.tl = []
  adrift : g.adrift = false
  fault : g.fault = 0
  area : g.area = 4 * nx + 1
  first : g.first ≤ 4611686018427387904
  L : g.L.length ≤ i * 4200000
  l : g.l.length ≤ i
  pl : ∀ y ∈ g.l, y.1 ≤ 1152921504606846976
theorem OpOk.take {d : DS} {nx i n : Nat} {g g2 : LG} (h : OpOk d nx i g) (ht : TkOk g g2 n) (hn : n ≤ 1152921504606846976) : OpOk d nx (i + 1) g2 := by
  refine ⟨ht.d.trans h.d, ht.next.trans h.next, ht.sector.trans h.sector, ht.tl.trans h.tl, ht.adrift.trans h.adrift, ht.fault.trans h.fault, ht.area.trans h.area, ht.first h.first, ?_, ?_, fun y hy => ?_⟩
  · have h1 := ht.L; have h2 := h.L; omega
  · rcases ht.l with e | ⟨ix, e⟩ <;> rw [e]
    · have := h.l; omega
    · have := h.l; simp only [List.length_append, List.length_singleton]; omega
  · rcases ht.l with e | ⟨ix, e⟩ <;> rw [e] at hy
    · exact h.pl y hy
    · rcases List.mem_append.1 hy with h1 | h1
      · exact h.pl y h1
      · rw [List.mem_singleton.1 h1]; exact hn
theorem OpOk.more {d : DS} {nx i : Nat} {g : LG} (h : OpOk d nx i g) : OpOk d nx (i + 1) g := ⟨h.d, h.next, h.sector, h.tl, h.adrift, h.fault, h.area, h.first, Nat.le_trans h.L (Nat.mul_le_mul_right _ (Nat.le_succ i)), Nat.le_succ_of_le h.l, h.pl⟩
theorem OpOk.lok {d : DS} {nx i : Nat} {g : LG} (h : OpOk d nx i g) (hi : i ≤ 16000) (hn : nx ≤ 1152921504606846976) : LOk g := ⟨by rw [h.next]; exact hn, h.pl, by have := h.l; omega, by rw [h.tl, List.length_nil]; omega, by rw [h.sector]; exact Nat.zero_le _, by have := h.L; omega, h.first⟩
/-- The row of numbers that numbersOn gives. -/
theorem NOwn.nrow {B : Nat} {F : List Nat} {w : World} {v : Value} {ys : List Int} {xs : List Nat} (h : NOwn B w v ys) (he : ys = xs.map Int.ofNat) (hF : ∀ k ∈ F, k < B) : NRow F w v xs := by
  subst he
  obtain ⟨_, ⟨rfl, h0⟩ | ⟨g, cap, cur, rfl, hg, hh, h3, h4, h5, h6⟩⟩ := h
  · rw [List.length_map] at h0
    exact ⟨none, 0, by rw [h0], fun h => by omega⟩
  · refine ⟨some ⟨g, 0, none⟩, cap, by rw [List.length_map], fun _ => ⟨g, rfl, (Array.getElem?_eq_some_iff.1 hh).1, fun hm => by have := hF g hm; omega, fun i x hx => ?_⟩⟩
    have h1 : ((xs.map Int.ofNat).map (Value.int .u64))[i]? = some (.int .u64 (x : Int)) := by simp [List.getElem?_map, hx]
    rw [← h6, List.getElem?_take] at h1
    split at h1
    · simpa [World.cell?, hh] using h1
    · cases h1
theorem numsN_eq (d : DS) (hok : ∀ a ∈ areasS d.secs, 0 ≤ a ∧ a < 18446744073709551616) : numsOf (areasS d.secs) = (numsN d).map Int.ofNat := by
  unfold numsN
  rw [List.map_map]
  conv => lhs; rw [← List.map_id (numsOf (areasS d.secs))]
  refine List.map_congr_left fun a ha => ?_
  unfold numsOf at ha
  obtain ⟨c, hc, rfl⟩ := List.mem_map.1 ha
  have h1 := hok c (List.mem_filter.1 hc).1
  have h2 : 0 ≤ c.tdiv 4 := by rw [Int.tdiv_eq_ediv_of_nonneg h1.1]; omega
  simp only [Function.comp, id]
  have h3 : Int.ofNat (c.tdiv 4).toNat = ((c.tdiv 4).toNat : Int) := rfl
  omega
end Go.Proofs.YthecngkdmnadoaaGreat

/- segment.lay: the walk. -/
import Derived.Test.YthecngkdmnadoaaGreatG25
namespace Go.Proofs.YthecngkdmnadoaaGreat
open Go.RowKit Go.Shelf
set_option maxRecDepth 100000

theorem RowX.at {fp : List Nat} {w : World} {ad : Option Addr} {n cap : Nat} {xs : List Nat} (h : RowX fp w (.slice ad n cap) xs) (h0 : 0 < n) : ∃ g off, ad = some ⟨g, off, none⟩ ∧ n = xs.length ∧ n ≤ cap ∧ g < w.heap.size ∧ g ∉ fp ∧ ∀ i, i < n → w.cell? ⟨g, off + i, none⟩ = some (bv (xs.getD i 0)) := by
  obtain ⟨⟨ao, cp, e, hcap, hno, hc⟩, hx⟩ := h
  simp only [Value.slice.injEq] at e
  obtain ⟨rfl, h2, rfl⟩ := e
  obtain ⟨g, off, rfl, hg, hd⟩ := hc (by omega)
  exact ⟨g, off, rfl, h2, by omega, hg, hx g off _ _ rfl (by omega), fun i hi => hd i (by omega)⟩
theorem RowX.take {fp : List Nat} {w : World} {g off n cap : Nat} {xs : List Nat} (h : RowX fp w (.slice (some ⟨g, off, none⟩) n cap) xs) (h0 : 0 < n) (k : Nat) (hk : k ≤ n) : RowX fp w (.slice (some ⟨g, off, none⟩) k cap) (xs.take k) := by
  obtain ⟨g', off', e, h2, h3, h4, h5, h6⟩ := h.at h0
  simp only [Option.some.injEq, Addr.mk.injEq] at e
  obtain ⟨rfl, rfl, _⟩ := e
  have hl : (xs.take k).length = k := by rw [List.length_take]; omega
  refine ⟨⟨some ⟨g, off, none⟩, cap, by rw [hl], by omega, (fun h => by cases h), fun _ => ⟨g, off, rfl, h4, fun i hi => ?_⟩⟩, fun b o len c e h0 => ?_⟩
  · rw [hl] at hi
    rw [h6 i (by omega)]
    simp [List.getD_eq_getElem?_getD, hi]
  · simp only [Value.slice.injEq, Option.some.injEq, Addr.mk.injEq] at e
    rw [← e.1.1]; exact h5
theorem RowX.drop {fp : List Nat} {w : World} {g off n cap : Nat} {xs : List Nat} (h : RowX fp w (.slice (some ⟨g, off, none⟩) n cap) xs) (h0 : 0 < n) (k : Nat) (hk : k ≤ n) (ad : Option Addr) (c : Nat) (had : (n = k ∧ ad ≠ none) ∨ (ad = some ⟨g, off + k, none⟩)) (hc : n - k ≤ c) : RowX fp w (.slice ad (n - k) c) (xs.drop k) := by
  obtain ⟨g', off', e, h2, h3, h4, h5, h6⟩ := h.at h0
  simp only [Option.some.injEq, Addr.mk.injEq] at e
  obtain ⟨rfl, rfl, _⟩ := e
  have hl : (xs.drop k).length = n - k := by rw [List.length_drop]; omega
  refine ⟨⟨ad, c, by rw [hl], by omega, fun h => ?_, fun hp => ?_⟩, fun b o len c2 e h0 => ?_⟩
  · rcases had with ⟨_, h1⟩ | h1
    · exact absurd h h1
    · rw [h] at h1; cases h1
  · rw [hl] at hp
    rcases had with ⟨h1, _⟩ | rfl
    · omega
    · refine ⟨g, off + k, rfl, h4, fun i hi => ?_⟩
      rw [hl] at hi
      rw [Nat.add_assoc, h6 (k + i) (by omega)]
      simp [List.getD_eq_getElem?_getD, List.getElem?_drop]
  · rw [hl] at h0
    rcases had with ⟨h1, _⟩ | rfl
    · omega
    · simp only [Value.slice.injEq, Option.some.injEq, Addr.mk.injEq] at e
      rw [← e.1.1]; exact h5
theorem RowX.mono {fp fp' : List Nat} {w : World} {v : Value} {xs : List Nat} (h : RowX fp w v xs) (hs : ∀ x ∈ fp', x ∈ fp ∨ w.heap.size ≤ x) : RowX fp' w v xs := by
  refine ⟨h.1, fun b off len cap e h0 hb => ?_⟩
  rcases hs b hb with h1 | h1
  · exact h.2 b off len cap e h0 h1
  · obtain ⟨ao, cp, e2, _, _, hc⟩ := h.1
    rw [e] at e2
    simp only [Value.slice.injEq] at e2
    obtain ⟨g, o, e3, hg, _⟩ := hc h0
    rw [e3] at e2
    simp only [Option.some.injEq, Addr.mk.injEq] at e2
    omega
/-- lay under way. -/
structure LayAt (w0 : World) (p b o : Nat) (C : Array Value) (T : TypeId) (area : Nat) (tv : Value) (fp0 : List Nat) (R : LayR) (M : Nat) (W : World) (f N s : Nat) (d : DS) (fp : List Nat) (ad : Option Addr) (n cap : Nat) (left : List Nat) : Prop where
  disk : DiskAt N W p d fp
  seg : SegAt W b o C T area s tv
  out : b ∉ fp
  row : RowX (b :: fp) W (.slice ad n cap) left
  new : ∀ g off, ad = some ⟨g, off, none⟩ → 0 < n → w0.heap.size ≤ g
  only : Only (b :: fp0) w0 W
  fps : ∀ k ∈ fp, k ∈ fp0 ∨ w0.heap.size ≤ k
  len : left.length = n
  eq : layF area f d s left = R
  fuel : n < f
  bnd : N + n ≤ M
  sec : s + n ≤ 140737488355328
theorem Only.more {fp : List Nat} {w w' : World} (h : Only fp w w') (b : Nat) : Only (b :: fp) w w' := ⟨h.os, h.tape, h.output, h.size, fun k hk hn => h.block k hk fun hx => hn (List.mem_cons_of_mem _ hx)⟩
theorem LayAt.keep {w0 : World} {p b o : Nat} {C : Array Value} {T : TypeId} {area : Nat} {tv : Value} {fp0 : List Nat} {R : LayR} {M : Nat} {W : World} {f N s : Nat} {d : DS} {fp : List Nat} {ad : Option Addr} {n cap : Nat} {left : List Nat} (H : LayAt w0 p b o C T area tv fp0 R M W f N s d fp ad n cap left) {w2 : World} {fp2 : List Nat} (ho : Only fp W w2) (hf : ∀ k ∈ fp2, k ∈ fp ∨ W.heap.size ≤ k) :
    SegAt w2 b o C T area s tv ∧ b ∉ fp2 ∧ RowX (b :: fp2) w2 (.slice ad n cap) left ∧ Only (b :: fp0) w0 w2 ∧ (∀ k ∈ fp2, k ∈ fp0 ∨ w0.heap.size ≤ k) := by
  have hbl := H.seg.lt
  have r0 : RowX (b :: fp2) W (.slice ad n cap) left := H.row.mono fun k hk => by
    rcases List.mem_cons.1 hk with h | h
    · exact .inl (by rw [h]; exact List.mem_cons_self ..)
    · rcases hf k h with h1 | h1
      · exact .inl (List.mem_cons_of_mem _ h1)
      · exact .inr h1
  have r1 := H.row.only (ho.more b)
  refine ⟨H.seg.same (ho.block b hbl H.out), fun hb2 => ?_, ⟨r1.1, r0.2⟩, H.only.trans ho (fun k hk => by rcases H.fps k hk with h | h; exact .inl (List.mem_cons_of_mem _ h); exact .inr h), fun k hk => ?_⟩
  · rcases hf b hb2 with h | h
    · exact H.out h
    · omega
  · rcases hf k hk with h | h
    · exact H.fps k h
    · exact .inr (Nat.le_trans H.only.size h)
set_option maxHeartbeats 2000000 in
theorem lay_any (N p b o : Nat) (C : Array Value) (T : TypeId) (area sector : Nat) (tv xv : Value) (tl x : List Nat) (d : DS) (fp : List Nat) (w : World) (hd : DiskAt N w p d fp) (hs : SegAt w b o C T area sector tv) (hbf : b ∉ fp) (ht : Row w.heap.size w tv tl) (hx : Row w.heap.size w xv x)
    (hl1 : tl.length < 549755813888) (hl2 : x.length < 549755813888) (hN : N < 274877906944) (hl3 : tl.length + x.length < 274877906944) (hsec : sector ≤ 1099511627776) :
    Calls Tryz.prog 76 #[.pointer (some ⟨b, o, none⟩), .pointer (some ⟨p, 0, none⟩), xv] w fun e w' => e = .returned (.int .i64 (layR d area sector (tl ++ x)).e) ∧ ∃ fp' tv', DiskAt (N + (tl ++ x).length + 1) w' p (layR d area sector (tl ++ x)).d fp' ∧ SegAt w' b o C T area (layR d area sector (tl ++ x)).sector tv' ∧ ((layR d area sector (tl ++ x)).tail = none → tv' = tv) ∧ (∀ t, (layR d area sector (tl ++ x)).tail = some t → NewRow w.heap.size (b :: fp') w' tv' t) ∧ Only (b :: fp) w w' ∧ (∀ k ∈ fp', k ∈ fp ∨ w.heap.size ≤ k) ∧ b ∉ fp' := by
  obtain ⟨R, hR⟩ : ∃ R, layR d area sector (tl ++ x) = R := ⟨_, rfl⟩
  rw [hR]
  obtain ⟨M, hM⟩ : ∃ M, N + (tl ++ x).length = M := ⟨_, rfl⟩
  rw [hM]
  obtain ⟨ta, tc, rfl, _⟩ := ht.shape
  obtain ⟨xa, xc, rfl, _⟩ := hx.shape
  obtain ⟨c0, c1, c2, cz⟩ := hs.cells
  have hbl := hs.lt
  have HW0 : Hid (∀ oo, Row (w.alloc oo).heap.size (w.alloc oo) (.slice ta tl.length tc) tl ∧ Row (w.alloc oo).heap.size (w.alloc oo) (.slice xa x.length xc) x ∧ Below w.heap.size w (w.alloc oo)) := fun oo =>
    ⟨(ht.below ((Below.refl _ w).alloc (Nat.le_refl _) oo)).mono (by simp), (hx.below ((Below.refl _ w).alloc (Nat.le_refl _) oo)).mono (by simp), (Below.refl _ w).alloc (Nat.le_refl _) oo⟩
  have HD : Hid (DiskAt N w p d fp) := hd
  have HS : Hid (SegAt w b o C T area sector (.slice ta tl.length tc)) := hs
  have HBF : Hid (b ∉ fp) := hbf
  have HR : Hid (layR d area sector (tl ++ x) = R) := hR
  have HM : Hid (N + (tl ++ x).length = M) := hM
  clear hd hs hbf ht hx hR hM
  go_enter Tryz.func76, Tryz.ntmps76
  go_wp2_with (go_at_call 97; refine (ConcatB_any _ _ _ _ _ tl x (HW0.out _).1 (HW0.out _).2.1 (by omega) (by omega) (by simp) (by simp) (by simp)).mono ?_; rintro e w1 ⟨v1, rfl, ho1, hb1⟩)
  have HB1 : Hid (Below w.heap.size w w1) := (HW0.out _).2.2.trans (hb1.mono (HW0.out _).2.2.size)
  have HO1 : Hid (Bytes w.heap.size w1 v1 (tl ++ x)) := ho1.mono (HW0.out _).2.2.size
  clear ho1 hb1
  obtain ⟨ad1, cap1, rfl, _⟩ := HO1.out.row.shape
  obtain ⟨n1, hn1⟩ : ∃ n1, (tl ++ x).length = n1 := ⟨_, rfl⟩
  have HST : Hid (LayAt w p b o C T area (.slice ta tl.length tc) fp R M w1 (n1 + 1) N sector d fp ad1 n1 cap1 (tl ++ x)) := by
    have hfp := HD.out.lt
    have hnew : ∀ g off, ad1 = some ⟨g, off, none⟩ → w.heap.size ≤ g := fun g off e => by
      obtain ⟨_, ⟨e2, _⟩ | ⟨g2, c2, cur, e2, h1, _⟩⟩ := HO1.out
      · rw [e] at e2; cases e2
      · rw [e] at e2
        simp only [Value.slice.injEq, Option.some.injEq, Addr.mk.injEq] at e2
        omega
    have hrow := HO1.out.row
    rw [hn1] at hrow
    refine ⟨HD.out.below HB1.out, HS.out.same (HB1.out.block b hbl), HBF.out, ⟨hrow, fun g off len cap e h0 hm => ?_⟩, fun g off e _ => hnew g off e, Only.of_below HB1.out, fun k hk => .inl hk, hn1, ?_, by omega, ?_, ?_⟩
    · simp only [Value.slice.injEq] at e
      have h1 := hnew g off e.1
      rcases List.mem_cons.1 hm with h2 | h2
      · omega
      · have := hfp g h2; omega
    · rw [← HR.out, layR, hn1]
    · have := HM.out; omega
    · rw [List.length_append] at hn1; omega
  have hn1b : n1 < 274877906944 := by rw [List.length_append] at hn1; omega
  have hMb : M < 549755813888 := by have := HM.out; omega
  rw [hn1]
  have HLE : Hid (∀ W, Only (b :: fp) w W → Only (b :: fp) w W) := fun _ h => h
  clear HO1 HB1 HW0 HD HS HBF hn1 c0 c1 c2 cz HR HM HLE
  go_wp2
  go_loopg [7, 8] n1 (fun g s7 _ wr => ∃ (f N' s : Nat) (d' : DS) (fp' : List Nat) (ad : Option Addr) (n cap : Nat) (left : List Nat), s7 = .slice ad n cap ∧ n ≤ g ∧ n ≤ n1 ∧ Hid (LayAt w p b o C T area (.slice ta tl.length tc) fp R M wr f N' s d' fp' ad n cap left))
  case atStart => exact ⟨n1 + 1, N, sector, d, fp, ad1, n1, cap1, tl ++ x, rfl, Nat.le_refl _, Nat.le_refl _, HST⟩
  case round =>
    clear HST
    obtain ⟨f, N', s, d', fp', ad, n, cap, left, rfl, hg, hn, H⟩ := hrel
    by_cases h63 : 63 ≤ n
    · have h63z : (63 : Int) ≤ (n : Int) := by omega
      obtain ⟨g, off, rfl, e1, e2, hgl, hgf, hcell⟩ := H.out.row.at (by omega)
      have hsec : s + n ≤ 140737488355328 := H.out.sec
      have hbnd : N' + n ≤ M := H.out.bnd
      have hlen : (left.take 63).length = 63 := by rw [List.length_take]; omega
      have hcap : 63 ≤ cap := by omega
      have hwr := swrite_any N' p b o area s d' fp' (.slice (some ⟨g, off, none⟩) 63 cap) (left.take 63) wr H.out.disk H.out.seg.sg H.out.out ((H.out.row.take (by omega) 63 h63).mono fun k hk => .inl (List.mem_cons_of_mem _ hk)) (by omega) (by omega)
      rw [hlen] at hwr
      obtain ⟨F, hF⟩ : ∃ F, f = F + 1 := ⟨f - 1, by have := H.out.fuel; omega⟩
      have HSG : Hid (∀ W2 fp2, Only fp' wr W2 → (∀ k ∈ fp2, k ∈ fp' ∨ wr.heap.size ≤ k) → W2.cell? ⟨b, o + 1, none⟩ = some (.int .i64 (s : Int)) ∧ W2.frozen? ⟨b, o + 1, none⟩ = false) := fun W2 fp2 h1 h2 => by
        obtain ⟨k1, _⟩ := H.out.keep h1 h2
        exact ⟨k1.cells.2.1, k1.cells.2.2.2 _⟩
      by_cases he : wrE d' area s (63 :: left.take 63) = 0
      · have HRR : Hid (layF area F (wrD d' area s (63 :: left.take 63)) (s + 1) (left.drop 63) = R) := by show _ = _; rw [← H.out.eq, hF, layF_go (by omega) he]
        have HFU : Hid (n - 63 < F) := by have := H.out.fuel; show _ < _; omega
        rw [he] at hwr
        clear hcell he hF e1
        go_wp2_with (go_at_call 98; refine hwr.mono ?_; rintro e w2 ⟨rfl, fp2, hd2, ho2, hf2⟩; obtain ⟨q1, qz⟩ := HSG.out w2 fp2 ho2 hf2)
        all_goals
          have hes : ((s : Int) + 1) = ((s + 1 : Nat) : Int) := by omega
          obtain ⟨k1, k2, k3, k4, k5⟩ := H.out.keep ho2 hf2
          have hone := one_setCell w2 b (o + 1) (.int .i64 ((s : Int) + 1))
          go_roundg (n - 63)
          case measure => omega
          case rel =>
            refine ⟨F, N' + 1, s + 1, wrD d' area s (63 :: left.take 63), fp2, _, n - 63, _, left.drop 63, rfl, Nat.le_refl _, by omega, (show Hid _ from ⟨?_, ?_, k2, ?_, ?_, ?_, k5, ?_, HRR.out, HFU.out, by omega, by omega⟩)⟩
            · exact hd2.same fun b' hb' => hone.block b' (fun e => k2 (e ▸ hb'))
            · have := k1.sector (s + 1)
              rw [← hes] at this
              exact this
            · refine RowX.only ?_ (Only.of_one hone (List.mem_cons_self ..))
              exact k3.drop (by omega) 63 h63 _ _ (by first | exact .inr rfl | exact .inl ⟨by omega, by simp⟩) (by omega)
            · intro g2 off2 e h0
              simp only [Option.some.injEq, Addr.mk.injEq] at e
              rw [← e.1]
              exact H.out.new g off rfl (by omega)
            · exact k4.trans (Only.of_one (fp := [b]) hone (List.mem_cons_self ..)) (fun k hk => .inl (by rw [List.mem_singleton.1 hk]; exact List.mem_cons_self ..))
            · rw [List.length_drop]; have := H.out.len; omega
      · have heb : (wrE d' area s (63 :: left.take 63) == 0) = false := beq_eq_false_iff_ne.2 he
        have HRR : Hid (R = ⟨wrD d' area s (63 :: left.take 63), s, none, wrE d' area s (63 :: left.take 63)⟩) := by show _ = _; rw [← H.out.eq, hF, layF_bad (by omega) he]
        clear hcell he hF e1
        generalize hEe : wrE d' area s (63 :: left.take 63) = E at hwr heb HRR
        clear hEe
        go_wp2_with (go_at_call 98; refine hwr.mono ?_; rintro e w2 ⟨rfl, fp2, hd2, ho2, hf2⟩)
        go_ret
        rw [HRR.out]
        obtain ⟨k1, k2, _, k4, k5⟩ := H.out.keep ho2 hf2
        exact ⟨rfl, fp2, _, hd2.mono (by omega), k1, fun _ => rfl, (fun t h => by cases h), k4, k5, k2⟩
    · have h63z : ¬ (63 : Int) ≤ (n : Int) := by omega
      obtain ⟨k0, k1, k2, kz⟩ := H.out.seg.cells
      have kf := kz (o + 2)
      have hbl2 : b < wr.heap.size := H.out.seg.lt
      have hbnd : N' + n ≤ M := H.out.bnd
      obtain ⟨F, hF⟩ : ∃ F, f = F + 1 := ⟨f - 1, by have := H.out.fuel; omega⟩
      have hone := one_setCell wr b (o + 2) (.slice ad n cap)
      have HDK : Hid (DiskAt N' (wr.setCell ⟨b, o + 2, none⟩ (.slice ad n cap)) p d' fp') := H.out.disk.same fun b' hb' => hone.block b' (fun e => H.out.out (e ▸ hb'))
      have HSG : Hid (SegAt (wr.setCell ⟨b, o + 2, none⟩ (.slice ad n cap)) b o C T area s (.slice ad n cap)) := H.out.seg.tail _
      have HRW : Hid (RowX (b :: fp') (wr.setCell ⟨b, o + 2, none⟩ (.slice ad n cap)) (.slice ad n cap) left) := H.out.row.only (Only.of_one hone (List.mem_cons_self ..))
      have HON : Hid (Only (b :: fp) w (wr.setCell ⟨b, o + 2, none⟩ (.slice ad n cap))) := H.out.only.trans (Only.of_one (fp := [b]) hone (List.mem_cons_self ..)) (fun k hk => .inl (by rw [List.mem_singleton.1 hk]; exact List.mem_cons_self ..))
      clear hone
      by_cases h0 : n = 0
      · have hl0 : left = [] := List.eq_nil_of_length_eq_zero (by have := H.out.len; omega)
        have HRR : Hid (R = ⟨d', s, some [], 0⟩) := by show _ = _; rw [← H.out.eq, hF, hl0, layF_nil]
        have HL0 : Hid (left = []) := hl0
        have h0b : ((n : Int) == 0) = true := beq_iff_eq.2 (by omega)
        clear hl0 hF
        subst h0
        go_wp2
        go_ret
        rw [HRR.out]
        refine ⟨rfl, fp', HDK.out.mono (by omega), _, HSG.out, (fun h => by cases h), fun t ht => ?_, HON.out, H.out.fps, H.out.out⟩
        simp only [Option.some.injEq] at ht
        subst ht
        have hr := HRW.out
        rw [HL0.out] at hr
        exact ⟨hr, fun g off len cap e hp => by simp at hp⟩
      · have h0b : ((n : Int) == 0) = false := beq_eq_false_iff_ne.2 (by omega)
        have hlen := H.out.len
        have hln : left ≠ [] := fun e => by rw [e] at hlen; simp at hlen; omega
        have HRR : Hid (R = ⟨wrD d' area s (n :: left), s, some left, wrE d' area s (n :: left)⟩) := by show _ = _; rw [← H.out.eq, hF, layF_end (by omega) hln, hlen]
        have hwr := swrite_any N' p b o area s d' fp' (.slice ad n cap) left _ HDK.out HSG.out.sg H.out.out (HRW.out.mono fun k hk => .inl (List.mem_cons_of_mem _ hk)) (by omega) (by omega)
        rw [hlen] at hwr
        generalize hEe : wrE d' area s (n :: left) = E at hwr HRR
        clear hEe hln hF hlen
        obtain ⟨w4, hw4⟩ : ∃ w4, w4 = wr.setCell ⟨b, o + 2, none⟩ (.slice ad n cap) := ⟨_, rfl⟩
        rw [← hw4] at hwr HDK HSG HRW HON
        go_wp2_with (go_at_call 98; rw [← hw4]; refine hwr.mono ?_; rintro e w2 ⟨rfl, fp2, hd2, ho2, hf2⟩)
        go_ret
        rw [HRR.out]
        have hbl4 := HSG.out.lt
        have r0 : RowX (b :: fp2) w4 (.slice ad n cap) left := HRW.out.mono fun k hk => by
          rcases List.mem_cons.1 hk with h | h
          · exact .inl (by rw [h]; exact List.mem_cons_self ..)
          · rcases hf2 k h with h1 | h1
            · exact .inl (List.mem_cons_of_mem _ h1)
            · exact .inr h1
        have r1 := HRW.out.only (ho2.more b)
        refine ⟨rfl, fp2, _, hd2.mono (by omega), HSG.out.same (ho2.block b hbl4 H.out.out), (fun h => by cases h), fun t ht => ?_, HON.out.trans ho2 (fun k hk => by rcases H.out.fps k hk with h | h; exact .inl (List.mem_cons_of_mem _ h); exact .inr h), fun k hk => ?_, fun hb2 => ?_⟩
        · simp only [Option.some.injEq] at ht
          subst ht
          exact ⟨⟨r1.1, r0.2⟩, fun g off len c e hp => by
            simp only [Value.slice.injEq] at e
            exact H.out.new g off e.1 (by omega)⟩
        · rcases hf2 k hk with h | h
          · exact H.out.fps k h
          · exact .inr (Nat.le_trans HON.out.size h)
        · rcases hf2 b hb2 with h | h
          · exact H.out.out h
          · omega
end Go.Proofs.YthecngkdmnadoaaGreat

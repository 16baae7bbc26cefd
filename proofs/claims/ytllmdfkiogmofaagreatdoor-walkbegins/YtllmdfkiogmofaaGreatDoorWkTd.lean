/- Cut: what the seat's translation lacks is left out. -/
/- told: what an iterator tells, cut behind so many. -/
import Derived.Test.YtllmdfkiogmofaaGreatDoorWkMk
namespace Go.Proofs.YtllmdfkiogmofaaGreatDoor
open Go.RowKit Go.Shelf Nums Fm Pk Pm
set_option maxRecDepth 100000

theorem cell_box {W : World} {b : Nat} {v : Value} {T : TypeId} (h : W.heap[b]? = some (.cells #[v] T)) : W.cell? ⟨b, 0, none⟩ = some v := by simp [World.cell?, h]
def encT (x : Pr) : List Value := [.string x.1, .int .i64 x.2]
theorem encT_ok (x : Pr) : Cells 2 (encT x) := ⟨rfl, by simp [encT, Value.oneCell']⟩
theorem rtyPT : RTy 47 36 2 24 := ⟨by kernel_rfl, ⟨.agg #[.string ⟨#[]⟩, .int .i64 0], by kernel_rfl, rfl⟩, by decide, by decide⟩
abbrev TOwn (B : Nat) (w : World) (v : Value) (l : List Pr) : Prop := GOwn 47 2 B w v (l.map encT)
theorem TOwn.row {B : Nat} {w : World} {v : Value} {l : List Pr} (h : TOwn B w v l) : PRow w v l := by
  obtain ⟨ad, cap, hv, _⟩ := GOwn.shape h
  rw [List.length_map] at hv
  refine ⟨ad, cap, hv, fun h0 => ?_⟩
  obtain ⟨g, c2, hv2, hg, _, _, hc⟩ := GOwn.cell h (by rw [List.length_map]; exact h0)
  rw [hv] at hv2
  simp only [Value.slice.injEq] at hv2
  refine ⟨g, 0, hv2.1, hg, fun i x hi => ?_⟩
  have e : (l.map encT)[i]? = some (encT x) := by rw [List.getElem?_map, hi]; rfl
  have h1 := hc i 0 _ _ e rfl
  have h2 := hc i 1 _ _ e rfl
  rw [Nat.add_zero] at h1
  rw [Nat.zero_add]
  exact ⟨h1, h2⟩
/-- The row that is told, in its box lb; the limit lies in mb. -/
structure TdI (w : World) (lb mb most : Nat) (A : Nat → Prop) (pre : List Pr) (W : World) : Prop where
  bel : Below w.heap.size w W
  lo : w.heap.size ≤ lb ∧ w.heap.size ≤ mb ∧ lb ≠ mb
  len : pre.length < most
  mx : W.heap[mb]? = some (.cells #[.int .i64 (most : Int)] 3)
  loA : ∀ k, A k → w.heap.size ≤ k ∧ k ≠ mb
  ex : ∃ v, W.heap[lb]? = some (.cells #[v] 36) ∧ TOwn w.heap.size W v pre ∧ v.ownBlock ≠ some lb ∧ v.ownBlock ≠ some mb ∧ ∀ k, k = lb ∨ v.ownBlock = some k → A k
/-- No more is wanted. -/
structure TdX (w : World) (lb most : Nat) (A : Nat → Prop) (pre : List Pr) (W : World) : Prop where
  bel : Below w.heap.size w W
  len : pre.length = most
  lo : w.heap.size ≤ lb
  ex : ∃ v, W.heap[lb]? = some (.cells #[v] 36) ∧ TOwn w.heap.size W v pre ∧ ∀ k, k = lb ∨ v.ownBlock = some k → A k
theorem TdI.minds {w : World} {lb mb most B : Nat} (hl : lb < B) (hm : mb < B) : Minds B (TdI w lb mb most) := by
  rintro A pre W W' ⟨h1, h2, h3, h4, hlo, v, h5, h6, h7, h8, h9⟩ hu
  have ha : ∀ k, A k → ¬ (¬ A k ∧ B ≤ k) := fun k hk hn => hn.1 hk
  refine ⟨h1.trans (hu.below h1.size fun k hk => ?_), h2, h3, (hu.block mb (Array.getElem?_eq_some_iff.1 h4).1 (fun hn => by omega)).trans h4, hlo, v, (hu.block lb (Array.getElem?_eq_some_iff.1 h5).1 (ha lb (h9 lb (.inl rfl)))).trans h5, GOwn.same h6 fun g hg => hu.block g (GOwn.lt h6 hg) (ha g (h9 g (.inr hg))), h7, h8, h9⟩
  have := h2.1
  omega
theorem TdX.minds {w : World} {lb most B : Nat} (hl : lb < B) : Minds B (TdX w lb most) := by
  rintro A pre W W' ⟨h1, h2, h2l, v, h3, h4, h5⟩ hu
  have ha : ∀ k, A k → ¬ (¬ A k ∧ B ≤ k) := fun k hk hn => hn.1 hk
  refine ⟨h1.trans (hu.below h1.size fun k hk => ?_), h2, h2l, v, (hu.block lb (Array.getElem?_eq_some_iff.1 h3).1 (ha lb (h5 lb (.inl rfl)))).trans h3, GOwn.same h4 fun g hg => hu.block g (GOwn.lt h4 hg) (ha g (h5 g (.inr hg))), h5⟩
  omega
set_option maxHeartbeats 2000000 in
theorem told1_any (w : World) (lb mb most : Nat) (hmost : most ≤ 1048576) (A : Nat → Prop) (pre : List Pr) (x : Pr) (W : World) (h : TdI w lb mb most A pre W) (hA : Lies A W) :
    Calls Tryz.prog 37 #[pairV x, .pointer (some ⟨lb, 0, none⟩), .pointer (some ⟨mb, 0, none⟩)] W (YPost (TdI w lb mb most) (TdX w lb most) A pre x W) := by
  obtain ⟨h1, h2, h3, h4, hlo, v, h5, h6, h7, h8, h9⟩ := h
  obtain ⟨vd, vn, vc, hvv⟩ : ∃ a n c, v = Value.slice a n c := by obtain ⟨a, c, e, _⟩ := GOwn.shape h6; exact ⟨_, _, _, e⟩
  subst hvv
  obtain ⟨W1, hW1⟩ : ∃ W1, W1 = W.alloc (.cells #[.string x.1, .int .i64 x.2] 47) := ⟨_, rfl⟩
  have hb1 : Below W.heap.size W W1 := by rw [hW1]; exact (Below.refl _ W).alloc (Nat.le_refl _) _
  obtain ⟨pb, hpb⟩ : ∃ pb, pb = W.heap.size := ⟨_, rfl⟩
  have hn1 : W1.heap[pb]? = some (.cells #[.string x.1, .int .i64 x.2] 47) := by rw [hW1, hpb]; exact alloc_newP _ _
  have hlbW := (Array.getElem?_eq_some_iff.1 h5).1
  have hmbW := (Array.getElem?_eq_some_iff.1 h4).1
  have hl1 : W1.heap[lb]? = some (.cells #[.slice vd vn vc] 36) := (hb1.block lb hlbW).trans h5
  have hm1 : W1.heap[mb]? = some (.cells #[.int .i64 (most : Int)] 3) := (hb1.block mb hmbW).trans h4
  have l0 : W1.cell? ⟨lb, 0, none⟩ = some (.slice vd vn vc) := by simp [World.cell?, hl1]
  have p0 : W1.cell? ⟨pb, 0, none⟩ = some (.string x.1) := by simp [World.cell?, hn1]
  have p1 : W1.cell? ⟨pb, 1, none⟩ = some (.int .i64 x.2) := by simp [World.cell?, hn1]
  have HO : Hid (TOwn w.heap.size W1 (.slice vd vn vc) pre) := GOwn.below h6 hb1
  have HL : Hid ((pre.map encT).length < 1099511627776) := by show _ < _; rw [List.length_map]; omega
  have HB : Hid (w.heap.size ≤ W1.heap.size) := Nat.le_trans h1.size hb1.size
  have HF : Hid (∀ (w' : World) (o : Obj), (W1.alloc o).grownBy w' (Value.slice vd vn vc).ownBlock → w'.heap[lb]? = some (.cells #[.slice vd vn vc] 36) ∧ w'.heap[mb]? = some (.cells #[.int .i64 (most : Int)] 3)) := fun w' o hg => by
    have hbo : Below W1.heap.size W1 (W1.alloc o) := (Below.refl _ W1).alloc (Nat.le_refl _) o
    have hs1 := hb1.size
    have hso := hbo.size
    exact ⟨(hg.block lb (by omega) (fun e => h7 e.symm)).trans ((hbo.block lb (by omega)).trans hl1), (hg.block mb (by omega) (fun e => h8 e.symm)).trans ((hbo.block mb (by omega)).trans hm1)⟩
  have HEND : Hid (∀ (v7 : Value) (w7 : World) (o : Obj), GOwn 47 2 w.heap.size w7 v7 (pre.map encT ++ [encT x]) → (W1.alloc o).grownBy w7 (Value.slice vd vn vc).ownBlock → Newer W1 (.slice vd vn vc) v7 → YPost (TdI w lb mb most) (TdX w lb most) A pre x W (.returned (.bool (decide ((pre.length : Int) + 1 < (most : Int))))) (w7.setCell ⟨lb, 0, none⟩ v7)) := fun v7 w7 o ho7 hg7 hn7 => by
    have hbo : Below W1.heap.size W1 (W1.alloc o) := (Below.refl _ W1).alloc (Nat.le_refl _) o
    have hs1 := hb1.size
    have hbWo : Below W.heap.size W (W1.alloc o) := hb1.trans (hbo.mono hs1)
    have hu7 : Upd A W w7 := (Upd.of_below hbWo).trans (G := A) ⟨hg7.os, hg7.tape, hg7.output, hg7.size, fun k hk hn => hg7.block k hk (fun e => hn (h9 k (.inr e.symm)))⟩ (fun _ _ g => g)
    obtain ⟨e1, e2⟩ := HF.out w7 o hg7
    have hus : Upd (fun j => j = lb) w7 (w7.setCell ⟨lb, 0, none⟩ v7) := set_updW w7 lb 0 v7
    have hlb7 : v7.ownBlock ≠ some lb := fun e => by
      rcases hn7 with e2 | ⟨q, e2, h⟩
      · exact h7 (e2 ▸ e)
      · rw [e2] at e; cases e; omega
    have hmb7 : v7.ownBlock ≠ some mb := fun e => by
      rcases hn7 with e2 | ⟨q, e2, h⟩
      · exact h8 (e2 ▸ e)
      · rw [e2] at e; cases e; omega
    have hblk : (w7.setCell ⟨lb, 0, none⟩ v7).heap[lb]? = some (.cells #[v7] 36) := by rw [set_at e1]; rfl
    have hown : TOwn w.heap.size (w7.setCell ⟨lb, 0, none⟩ v7) v7 (pre ++ [x]) := by
      unfold TOwn
      rw [List.map_append]
      exact GOwn.same ho7 fun g hg => hus.block g (GOwn.lt ho7 hg) (fun e => hlb7 (e ▸ hg))
    have hu : Upd A W (w7.setCell ⟨lb, 0, none⟩ v7) := hu7.trans hus (fun k _ e => h9 k (.inl e))
    have hbel : Below w.heap.size w (w7.setCell ⟨lb, 0, none⟩ v7) := h1.trans (hu.below h1.size fun k hk => (hlo k hk).1)
    have hext : Ext A (fun k => A k ∨ v7.ownBlock = some k) W := ⟨fun k hk => .inl hk, fun k hk => by
      rcases hk with e | e
      · exact .inl e
      · rcases hn7 with e2 | ⟨q, e2, h⟩
        · exact .inl (h9 k (.inr (e2 ▸ e)))
        · rw [e2] at e; cases e; exact .inr (Nat.le_trans hs1 h)⟩
    have hlies : Lies (fun k => A k ∨ v7.ownBlock = some k) (w7.setCell ⟨lb, 0, none⟩ v7) := fun k hk => by
      rcases hk with e | e
      · exact Nat.lt_of_lt_of_le (hA k e) hu.size
      · exact Nat.lt_of_lt_of_le (GOwn.lt ho7 e) hus.size
    by_cases hlt : pre.length + 1 < most
    · have ed : decide ((pre.length : Int) + 1 < (most : Int)) = true := decide_eq_true (by omega)
      rw [ed]
      refine .inl ⟨rfl, fun k => A k ∨ v7.ownBlock = some k, ⟨fun k hk => .inl hk, fun k hk => ?_⟩, fun k hk => ?_, hu, hbel, h2, by simp; omega, ?_, fun k hk => ?_, v7, hblk, hown, hlb7, hmb7, fun k hk => ?_⟩
      · rcases hk with e | e
        · exact .inl e
        · rcases hn7 with e2 | ⟨q, e2, h⟩
          · exact .inl (h9 k (.inr (e2 ▸ e)))
          · rw [e2] at e; cases e; exact .inr (Nat.le_trans hs1 h)
      · rcases hk with e | e
        · exact Nat.lt_of_lt_of_le (hA k e) hu.size
        · exact Nat.lt_of_lt_of_le (GOwn.lt ho7 e) hus.size
      · exact (hus.block mb (Array.getElem?_eq_some_iff.1 e2).1 (fun e => h2.2.2 e.symm)).trans e2
      · rcases hk with e | e
        · exact hlo k e
        · exact ⟨(GOwn.block ho7 e).1, fun e3 => hmb7 (e3 ▸ e)⟩
      · rcases hk with e | e
        · exact .inl (h9 k (.inl e))
        · exact .inr e
    · have ed : decide ((pre.length : Int) + 1 < (most : Int)) = false := decide_eq_false (by omega)
      rw [ed]
      exact .inr ⟨rfl, fun k => A k ∨ v7.ownBlock = some k, hext, hlies, hu, hbel, by simp; omega, h2.1, v7, hblk, hown, fun k hk => hk.elim (fun e => .inl (h9 k (.inl e))) .inr⟩
  have HN : Hid (vn = pre.length) := by
    obtain ⟨_, _, e, _⟩ := GOwn.shape h6
    simp only [Value.slice.injEq, List.length_map] at e
    exact e.2.1
  obtain ⟨R, hR⟩ : ∃ R, YPost (TdI w lb mb most) (TdX w lb most) A pre x W = R := ⟨_, rfl⟩
  rw [hR] at HEND ⊢
  obtain ⟨np, hnp⟩ : ∃ np, pre.length = np := ⟨_, rfl⟩
  have HNP : Hid (pre.length = np) := hnp
  rw [hnp] at HEND
  have hnb : np < most := by omega
  have HLM : Hid (lb ≠ mb) := h2.2.2
  have hpbl : pb < W1.heap.size := (Array.getElem?_eq_some_iff.1 hn1).1
  clear h1 h2 h3 h4 h5 h6 h7 h8 h9 hlo hb1 hn1 hl1 hm1 hR hnp hA hlbW hmbW
  unfold pairV
  go_enter Tryz.func37, Tryz.ntmps37
  go_upto_region 1 with fail
  rw [← hW1, ← hpb]
  clear hW1 hpb
  go_wp2_with (at_builtin; refine append_g2 rtyPT (by rfl) _ _ [.string x.1, .int .i64 x.2] _ rfl w.heap.size _ _ _ _ rfl HO.out rfl rfl (encT_ok x) HL.out HB.out ?_; intro v7 w7 ho7 hb7 hg7 hn7; obtain ⟨e1, e2⟩ := HF.out w7 _ hg7; have HE7 := HEND.out v7 w7 _ ho7 hg7 hn7; have HEE : Hid _ := HE7; obtain ⟨a7, n7, c7, hv7, hn7l⟩ : ∃ a n c, v7 = Value.slice a n c ∧ n = np + 1 := (by obtain ⟨a, c, e, _⟩ := GOwn.shape ho7; exact ⟨_, _, _, e, by simp [HNP.out]⟩); subst hv7; have y0 : w7.cell? ⟨lb, 0, none⟩ = some (.slice vd vn vc) := (by simp [World.cell?, e1]); have yf : w7.frozen? ⟨lb, 0, none⟩ = false := (by simp [World.frozen?, e1]); have hlm := HLM.out; have ym : w7.cell? ⟨mb, 0, none⟩ = some (.int .i64 (most : Int)) := (by simp [World.cell?, e2]); clear HE7 ho7 hb7 hg7 hn7 e1 e2)
  subst hn7l
  exact HEE.out

set_option maxHeartbeats 2000000 in
theorem toldF_any (w : World) (c0 c1 : Value) (S : (Nat → Prop) → World → Prop) (L : List Pr) (most : Int) (hmost : most ≤ 1048576) (hseq : SeqIs S 69 #[c0, c1] L) (hS : ∀ W A, Below w.heap.size w W → (∀ k, A k → w.heap.size ≤ k) → S A W) :
    Calls Tryz.prog 15 #[.func (.func 69) #[] #[c0, c1], .int .i64 most] w fun e w' => ∃ ad n cap, e = .returned (.slice ad n cap) ∧ PRow w' (.slice ad n cap) (L.take most.toNat) ∧ Below w.heap.size w w' := by
  obtain ⟨mb, hmb⟩ : ∃ mb, mb = w.heap.size := ⟨_, rfl⟩
  obtain ⟨lb, hlb⟩ : ∃ lb, lb = w.heap.size + 1 := ⟨_, rfl⟩
  obtain ⟨W0, hW0⟩ : ∃ W0, W0 = (w.alloc (.cells #[.int .i64 most] 3)).alloc (.cells #[.slice none 0 0] 36) := ⟨_, rfl⟩
  have hb0 : Below w.heap.size w W0 := by rw [hW0]; exact ((Below.refl _ w).alloc (Nat.le_refl _) _).alloc (by simp) _
  have hs0 : W0.heap.size = w.heap.size + 2 := by rw [hW0]; simp
  have hm0 : W0.heap[mb]? = some (.cells #[.int .i64 most] 3) := by rw [hW0, hmb, (MapKept.heap_alloc _ _).2 _ (by simp)]; exact alloc_newP _ _
  have hl0 : W0.heap[lb]? = some (.cells #[.slice none 0 0] 36) := by
    have e : lb = (w.alloc (.cells #[.int .i64 most] 3)).heap.size := by rw [hlb]; simp
    rw [hW0, e]; exact alloc_newP _ _
  have m0 : W0.cell? ⟨mb, 0, none⟩ = some (.int .i64 most) := by simp [World.cell?, hm0]
  have l0 : W0.cell? ⟨lb, 0, none⟩ = some (.slice none 0 0) := by simp [World.cell?, hl0]
  have HB0 : Hid (Below w.heap.size w W0) := hb0
  by_cases h1 : most < 1
  · have HTK : Hid (L.take most.toNat = []) := by show _ = _; rw [show most.toNat = 0 by omega]; rfl
    clear hseq hS hb0 hs0 hm0 hl0
    go_enter Tryz.func15, Tryz.ntmps15
    go_upto_region 2 with fail
    rw [← hlb, ← hmb, ← hW0]
    clear hlb hmb hW0
    go_wp2
    go_ret
    exact ⟨none, 0, 0, rfl, by rw [HTK.out]; exact PRow.nil _, HB0.out⟩
  · obtain ⟨k, rfl⟩ : ∃ k : Nat, most = k := ⟨most.toNat, by omega⟩
    have hI : TdI w lb mb k (fun j => j = lb) [] W0 := ⟨hb0, ⟨by omega, by omega, by omega⟩, by simp; omega, hm0, fun j e => by omega, _, hl0, GOwn.nil _ _ _ _, fun e => (by cases e), fun e => (by cases e), fun j e => (by rcases e with e | e; exact e; cases e)⟩
    have hcall := hseq (.func (.func 37) #[] #[.pointer (some ⟨lb, 0, none⟩), .pointer (some ⟨mb, 0, none⟩)]) (TdI w lb mb k) (TdX w lb k) (fun j => j = lb) W0 ⟨_, _, rfl⟩ (hS W0 _ hb0 (fun j e => by omega)) (TdI.minds (by omega) (by omega)) (TdX.minds (by omega)) (fun A pre x W hi hl => .inl ⟨_, _, rfl, told1_any w lb mb k (by omega) A pre x W hi hl⟩) hI (fun j e => by omega)
    have HCALL : Hid (Calls Tryz.prog 69 #[.func (.func 37) #[] #[.pointer (some ⟨lb, 0, none⟩), .pointer (some ⟨mb, 0, none⟩)], c0, c1] W0 fun e W' => (∃ v, e = .returned v) ∧ ∃ ad n cap, W'.cell? ⟨lb, 0, none⟩ = some (.slice ad n cap) ∧ PRow W' (.slice ad n cap) (L.take k) ∧ Below w.heap.size w W') := by
      refine hcall.mono ?_
      rintro e W' ⟨he, ⟨A', _, _, _, hi⟩ | ⟨q, A', hq, _, _, _, hx⟩⟩
      · obtain ⟨v, g1, g2, _⟩ := hi.ex
        obtain ⟨ad, cap, hv, _⟩ := GOwn.shape g2
        subst hv
        exact ⟨he, _, _, _, cell_box g1, by rw [List.take_of_length_le (Nat.le_of_lt hi.len)]; exact g2.row, hi.bel⟩
      · obtain ⟨v, g1, g2, _⟩ := hx.ex
        obtain ⟨ad, cap, hv, _⟩ := GOwn.shape g2
        subst hv
        have hqe : L.take k = q := by
          obtain ⟨t, rfl⟩ := hq
          rw [← hx.len, List.take_left]
        exact ⟨he, _, _, _, cell_box g1, by rw [hqe]; exact g2.row, hx.bel⟩
    rw [Int.toNat_natCast]
    clear hseq hS hb0 hs0 hm0 hl0 hI hcall
    go_enter Tryz.func15, Tryz.ntmps15
    go_upto_region 2 with fail
    rw [← hlb, ← hmb, ← hW0]
    clear hlb hmb hW0
    go_wp2_with (go_at_call 69; refine HCALL.out.mono ?_; rintro e w2 ⟨⟨v, rfl⟩, ad, n, cap, hc2, hr2, hb2⟩; have HR2 : Hid (PRow w2 (.slice ad n cap) (L.take k)) := hr2; clear hr2)
    go_ret
    exact ⟨ad, n, cap, rfl, HR2.out, hb2⟩
/-- What an iterator says to told's own function. -/
def SeqC (S : (Nat → Prop) → World → Prop) (gf : Nat) (lb : Array Value) (L : List Pr) : Prop :=
  ∀ (yv : Value) (I X : CI) A W, (∃ d0 d1, yv = .func (.func 37) #[] #[d0, d1]) → S A W → Minds W.heap.size I → Minds W.heap.size X → Yields yv I X → I A [] W → Lies A W → Calls Tryz.prog gf (#[yv] ++ lb) W fun e W' => (∃ v, e = .returned v) ∧
    ((∃ A', Ext A A' W ∧ Lies A' W' ∧ Upd A W W' ∧ I A' L W') ∨ ∃ q A', q <+: L ∧ Ext A A' W ∧ Lies A' W' ∧ Upd A W W' ∧ X A' q W')

end Go.Proofs.YtllmdfkiogmofaaGreatDoor

/- Texts that were written apart, joined. -/
import Derived.Test.YthfngcpcccbnpaaDoorF2
import Derived.Test.YthfngcpcccbnpaaDoorE3
import Derived.Test.YthfngcpcccbnpaaDoorR0
import Derived.Test.YthfngcpcccbnpaaDoorFFind
import Derived.Deep.QuietTactic
import Derived.BigQuiet
import Derived.Laws.StructEq
/- The law's on; the reference's All and Same. -/
namespace Go.Proofs.YthfngcpcccbnpaaDoor
open Go.RowKit Go.Shelf Go.Lib Nums Fm Pk Pm Fz Ed Lv
set_option maxRecDepth 100000

set_option maxHeartbeats 2000000 in
theorem on12_no (w : World) (v : Value) (l : List Pr) (h : PRow w v l) (hl : l.length ≤ 9223372036854775807) (hsm : Sm l) (hb : onB l = false) :
    Calls Tryd.prog 8 #[v] w fun e w' => e = .returned (.tuple #[.pointer none, .bool false]) ∧ Below w.heap.size w w' := by
  obtain ⟨ad, cap, rfl⟩ := h.form
  have HR : Hid (Calls Tryd.prog 25 #[.slice ad l.length cap] w fun e w' => e = .returned (.bool (rightP l)) ∧ Below w.heap.size w w') := refRight_any w _ l h hl hsm
  obtain ⟨n, hn⟩ : ∃ n, l.length = n := ⟨_, rfl⟩
  have HB : Hid (onB l = false) := hb
  have HN : Hid (l.length = n) := hn
  rw [hn] at HR hl ⊢
  clear h hb hn
  by_cases h3 : 300 < n
  · have h3z : (300 : Int) < (n : Int) := by omega
    go_enter Tryd.func8, Tryd.ntmps8
    go_wp2
    go_ret2
    exact ⟨rfl, Below.refl _ _⟩
  · have h3z : ¬ (300 : Int) < (n : Int) := by omega
    have hr : rightP l = false := by
      have := HB.out
      unfold onB at this
      rw [decide_eq_true (by have := HN.out; omega)] at this
      simpa using this
    rw [hr] at HR
    go_enter Tryd.func8, Tryd.ntmps8
    go_wp2_with (go_at_call 25; refine HR.out.mono ?_; rintro e w1 ⟨rfl, hb1⟩)
    go_ret2
    exact ⟨rfl, hb1⟩
set_option maxHeartbeats 2000000 in
theorem on12_yes (w : World) (ht : Tabs w) (v : Value) (l : List Pr) (h : PRow w v l) (hl : l.length ≤ 9223372036854775807) (hsm : Sm l) (hb : onB l = true) :
    Calls Tryd.prog 8 #[v] w fun e w' => ∃ wb, e = .returned (.tuple #[.pointer (some ⟨wb, 0, none⟩), .bool true]) ∧ w.heap.size ≤ wb ∧ WkOn w' wb l ∧ Below w.heap.size w w' := by
  unfold onB at hb
  simp only [Bool.and_eq_true, decide_eq_true_eq] at hb
  obtain ⟨h3, hr⟩ := hb
  have HC : Hid (buildE l = 0) := right_build hr
  obtain ⟨ad, cap, rfl⟩ := h.form
  have HR : Hid (Calls Tryd.prog 25 #[.slice ad l.length cap] w fun e w' => e = .returned (.bool true) ∧ Below w.heap.size w w') := by
    have := refRight_any w _ l h hl hsm
    rw [hr] at this
    exact this
  have HMK : Hid (∀ W, Below w.heap.size w W → Calls Tryd.prog 27 #[.slice ad l.length cap] W fun e w' => ∃ base vs b, e = .returned (.agg #[.int .i64 base, vs]) ∧ BuildSays W w' l base vs b) := fun W hW => make_all W _ l (h.below hW) HC.out
  have HT : Hid (Tabs w) := ht
  obtain ⟨n, hn⟩ : ∃ n, l.length = n := ⟨_, rfl⟩
  rw [hn] at HR HMK h3 ⊢
  have h3z : ¬ (300 : Int) < (n : Int) := by omega
  clear h hn hr ht hl
  go_enter Tryd.func8, Tryd.ntmps8
  go_wp2_with (first
    | (go_at_call 25; refine HR.out.mono ?_; rintro e w0 ⟨rfl, hb0⟩; have HB0 : Hid (Below w.heap.size w w0) := hb0; clear hb0)
    | (go_at_call 27; refine (HMK.out _ HB0.out).mono ?_; rintro e w1 ⟨base, vs, b, rfl, hS⟩; obtain ⟨sd, nb, sc, hvs, hnb⟩ := StRow.form hS.row; subst hvs; have HS : Hid (BuildSays w0 w1 l base (.slice sd nb sc) b) := hS; have HB1 : Hid (Below w.heap.size w w1) := HB0.out.trans (hS.bel.mono HB0.out.size); clear hS hnb)
    | (go_at_call 24; refine (NewW_any _ w1 l base _ b HC.out HS.out.row HS.out.mach (HT.out.below HB1.out)).mono ?_; rintro e w2 ⟨wb, rfl, h1, hon, hb2⟩))
  go_ret2
  exact ⟨wb, rfl, Nat.le_trans HB1.out.size h1, hon, HB1.out.trans (hb2.mono HB1.out.size)⟩
theorem on_ok {l : List Pr} (h : onB l = true) : buildE l = 0 := by
  unfold onB at h
  simp only [Bool.and_eq_true] at h
  exact right_build h.2
/-- A row of matches that is read. -/
def MRow (w : World) (v : Value) (l : List Mt) : Prop := GRow w.heap.size 3 w v (l.map cellsM)
theorem MRow.below {w w' : World} {v : Value} {l : List Mt} (h : MRow w v l) (hb : Below w.heap.size w w') : MRow w' v l := (GRow.below h hb).mono hb.size
theorem MRow.form {w : World} {v : Value} {l : List Mt} (h : MRow w v l) : ∃ ad cap, v = .slice ad l.length cap := by
  obtain ⟨ad, cap, e⟩ := GRow.shape h
  exact ⟨ad, cap, by rw [e, List.length_map]⟩
theorem MRow.at {w : World} {ad : Option Addr} {n cap : Nat} {l : List Mt} (h : MRow w (.slice ad n cap) l) (h0 : 0 < l.length) : ∃ g off, ad = some ⟨g, off, none⟩ ∧ g < w.heap.size ∧ ∀ k x, l[k]? = some x → w.cell? ⟨g, off + k * 3, none⟩ = some (.string x.1) ∧ w.cell? ⟨g, off + k * 3 + 1, none⟩ = some (.int .i64 x.2.1) ∧ w.cell? ⟨g, off + k * 3 + 2, none⟩ = some (.int .i64 x.2.2) := by
  obtain ⟨ad', cap', hv, hc⟩ := h.ex
  simp only [Value.slice.injEq] at hv
  obtain ⟨g, off, rfl, hg, hx⟩ := hc (by rw [List.length_map]; omega)
  refine ⟨g, off, hv.1, hg, fun k x hk => ?_⟩
  have e : (l.map cellsM)[k]? = some (cellsM x) := by rw [List.getElem?_map, hk]; rfl
  exact ⟨hx k 0 _ _ e rfl, hx k 1 _ _ e rfl, hx k 2 _ _ e rfl⟩
set_option maxHeartbeats 4000000 in
theorem same12_any (w : World) (u v : Value) (l : List Mt) (h1 : MRow w u l) (h2 : MRow w v l) (hl : l.length < 549755813888) :
    Calls Tryd.prog 12 #[u, v] w fun e w' => e = .returned (.bool true) ∧ ∃ q, w' = w.drewN q := by
  obtain ⟨ad1, cap1, rfl⟩ := h1.form
  obtain ⟨ad2, cap2, rfl⟩ := h2.form
  have HR1 : Hid (MRow w (.slice ad1 l.length cap1) l) := h1
  have HR2 : Hid (MRow w (.slice ad2 l.length cap2) l) := h2
  obtain ⟨n1, hn1⟩ : ∃ n, l.length = n := ⟨_, rfl⟩
  have HN : Hid (l.length = n1) := hn1
  rw [hn1] at HR1 HR2 hl
  rw [hn1]
  clear h1 h2 hn1
  have hneb : ((n1 : Int) == (n1 : Int)) = true := beq_self_eq_true _
  go_enter Tryd.func12, Tryd.ntmps12
  go_wp2
  go_loopg [5] n1 (fun g s5 wr => ∃ (k q : Nat), s5 = .int .i64 k ∧ k ≤ n1 ∧ n1 - k ≤ g ∧ wr = w.drewN q)
  case atStart => exact ⟨0, 0, rfl, Nat.zero_le _, by omega, rfl⟩
  case round =>
    obtain ⟨k, q, rfl, hk, hg, hwr⟩ := hrel
    by_cases hlt : k < n1
    · have hltz : (k : Int) < (n1 : Int) := by omega
      obtain ⟨x, hx⟩ : ∃ x, l[k]? = some x := ⟨l[k]'(by have := HN.out; omega), List.getElem?_eq_getElem _⟩
      obtain ⟨b1, off1, rfl, hb1, hc1⟩ := HR1.out.at (by have := HN.out; omega)
      obtain ⟨b2, off2, rfl, hb2, hc2⟩ := HR2.out.at (by have := HN.out; omega)
      obtain ⟨c0, c1, c2⟩ := hc1 k x hx
      obtain ⟨d0, d1, d2⟩ := hc2 k x hx
      have c0' : wr.cell? ⟨b1, off1 + k * 3, none⟩ = some (.string x.1) := by rw [hwr]; exact c0
      have c1' : wr.cell? ⟨b1, off1 + k * 3 + 1, none⟩ = some (.int .i64 x.2.1) := by rw [hwr]; exact c1
      have c2' : wr.cell? ⟨b1, off1 + k * 3 + 2, none⟩ = some (.int .i64 x.2.2) := by rw [hwr]; exact c2
      have d0' : wr.cell? ⟨b2, off2 + k * 3, none⟩ = some (.string x.1) := by rw [hwr]; exact d0
      have d1' : wr.cell? ⟨b2, off2 + k * 3 + 1, none⟩ = some (.int .i64 x.2.1) := by rw [hwr]; exact d1
      have d2' : wr.cell? ⟨b2, off2 + k * 3 + 2, none⟩ = some (.int .i64 x.2.2) := by rw [hwr]; exact d2
      have HW : Hid (wr = w.drewN q) := hwr
      have s1 : (x.1.toList == x.1.toList) = true := by simp
      have s2 : (x.2.1 == x.2.1) = true := by simp
      have s3 : (x.2.2 == x.2.2) = true := by simp
      clear c0 c1 c2 d0 d1 d2 hc1 hc2 hx hwr
      go_wp2_with fail
      go_quiet (fail)
      go_wp2_with fail
      go_roundg (n1 - (k + 1))
      case measure => omega
      case rel => exact ⟨k + 1, _, by go_num, by omega, Nat.le_refl _, by rw [HW.out, World.drewN_drewN]⟩
    · have hkn : k = n1 := by omega
      have hnlt : ¬ (k : Int) < (n1 : Int) := by omega
      clear hk
      go_wp2_with fail
      go_ret
      exact ⟨rfl, q, rfl⟩
end Go.Proofs.YthfngcpcccbnpaaDoor

/- The reference's All; the law's alive. -/
namespace Go.Proofs.YthfngcpcccbnpaaDoor
open Go.RowKit Go.Shelf Go.Lib Nums Fm Pk Pm Fz Ed Lv
set_option maxRecDepth 100000

theorem nearOf_snoc (xs : List Int) (d : Nat) {l : List Pr} {k : Nat} {x : Pr} (h : l[k]? = some x) : nearOf xs d (l.take (k + 1)) = nearOf xs d (l.take k) ++ (if lv (entOf x).1 xs ≤ d then [(x.1, x.2, (lv (entOf x).1 xs : Int))] else []) := by
  unfold nearOf
  rw [List.take_add_one, h, List.filterMap_append]
  congr 1
  simp only [Option.toList_some, List.filterMap_cons, List.filterMap_nil]
  split <;> rename_i h1 <;> split at h1 <;> simp_all
theorem nearOf_len (xs : List Int) (d : Nat) (l : List Pr) : (nearOf xs d l).length ≤ l.length := List.length_filterMap_le _ _
/-- The distance of a dictionary's word. -/
theorem ds_word {x : Pr} {word : ByteArray} {xs : List Int} (hw : wordB x.1.data.toList = true) (hx : rs word.data.toList = some xs) (hl : xs.length ≤ 24) : dsE x.1.data.toList word.data.toList = some (lv (entOf x).1 xs) := by
  obtain ⟨ys, h1, _, h3, _⟩ := word_runes hw
  have e : (entOf x).1 = ys := by rw [entOf, h1]; rfl
  rw [e]
  exact dsE_some (rsE_some h1 (by omega)) (rsE_some hx (by omega))
def SRA (g p : Nat) (x : Pr) (W : World) : Prop := W.cell? ⟨g, p, none⟩ = some (.string x.1) ∧ W.cell? ⟨g, p + 1, none⟩ = some (.int .i64 x.2)
theorem SRA.facts {g p : Nat} {x : Pr} {W : World} (h : SRA g p x W) : W.cell? ⟨g, p, none⟩ = some (.string x.1) ∧ W.cell? ⟨g, p + 1, none⟩ = some (.int .i64 x.2) := h
set_option maxHeartbeats 4000000 in
theorem refAll12_any (w : World) (v : Value) (l : List Pr) (h : PRow w v l) (hC : buildE l = 0) (word : ByteArray) (e : Int) (hm : word.size ≤ 9223372036854775807) :
    Calls Tryd.prog 11 #[v, .string word, .int .i64 e] w fun x w' => ∃ v' c, x = .returned (.tuple #[v', .int .i64 c]) ∧ AllSays w w' l word.data.toList e v' c := by
  obtain ⟨ad, cap, rfl⟩ := h.form
  obtain ⟨hall, _, hfew⟩ := built_all hC
  have HRI : Hid (Calls Tryd.prog 31 #[.string word, .int .i64 e] w fun x w' => x = .returned (.bool (Go.Proofs.YthfngcpcccbnpaaDoor.rightB word.data.toList e)) ∧ Below w.heap.size w w') := LRight_any word e w hm
  obtain ⟨n, hn⟩ : ∃ n, l.length = n := ⟨_, rfl⟩
  cases hr : Go.Proofs.YthfngcpcccbnpaaDoor.rightB word.data.toList e with
  | false =>
    rw [hr] at HRI
    have HR : Hid (Go.Proofs.YthfngcpcccbnpaaDoor.rightB word.data.toList e = false) := hr
    clear hr h hall
    rw [hn]
    go_enter Tryd.func11, Tryd.ntmps11
    go_wp2_with (go_at_call 31; refine HRI.out.mono ?_; rintro x w1 ⟨rfl, hb1⟩)
    go_ret2
    exact ⟨_, _, rfl, hb1, .inl ⟨HR.out, rfl, rfl⟩⟩
  | true =>
    rw [hr] at HRI
    have hh := hr
    simp only [Go.Proofs.YthfngcpcccbnpaaDoor.rightB, Bool.and_eq_true, decide_eq_true_eq] at hh
    obtain ⟨⟨hw, h0⟩, h3⟩ := hh
    obtain ⟨xs, hxs, hx1, hx24, hx96, _⟩ := word_runes (x := (word, 0)) hw
    simp only at hxs hx96
    obtain ⟨d, rfl⟩ : ∃ d : Nat, e = (d : Int) := ⟨e.toNat, by omega⟩
    have HRT : Hid (∀ v w', Below w.heap.size w w' → GOwn 35 3 w.heap.size w' v ((nearOf xs d l).map cellsM) → AllSays w w' l word.data.toList (d : Int) v 0) := fun v w' g1 g2 => ⟨g1, .inr ⟨hr, rfl, xs, d, hxs, rfl, hx24, by omega, g2⟩⟩
    have HDS : Hid (∀ x ∈ l, ∀ W, Calls Tryd.prog 32 #[.string x.1, .string word] W fun e w' => e = .returned (.tuple #[.int .i64 (lv (entOf x).1 xs : Int), .bool true]) ∧ Below W.heap.size W w') := fun x hx W => by
      obtain ⟨_, _, _, _, hs96, _⟩ := word_runes (hall x hx).1
      have := refDistance_is x.1 word W (by omega) (by omega)
      rw [ds_word (hall x hx).1 hxs hx24] at this
      exact this
    have HROW : Hid (PRow w (.slice ad l.length cap) l) := h
    have HN : Hid (l.length = n) := hn
    rw [hn] at hfew HROW ⊢
    clear hr h hall hw hxs hn hx96
    go_enter Tryd.func11, Tryd.ntmps11
    go_wp2_with (go_at_call 31; refine HRI.out.mono ?_; rintro x w1 ⟨rfl, hb1⟩)
    go_loopg [8, 9, 10, 11] n (fun gm s8 s9 _ _ wr => ∃ (k : Nat), s9 = .int .i64 k ∧ k ≤ n ∧ n - k ≤ gm ∧ Hid (GOwn 35 3 w.heap.size wr s8 ((nearOf xs d (l.take k)).map cellsM)) ∧ Hid (Below w.heap.size w wr))
    case atStart => exact ⟨0, rfl, Nat.zero_le _, by omega, GOwn.nil _ _ _ _, hb1⟩
    case round =>
      rename_i s8 s9 s10 s11
      obtain ⟨k, hs9, hk, hg, HG, HB⟩ := hrel
      subst hs9
      obtain ⟨vd, vc, hs8, _⟩ := GOwn.shape HG.out
      rw [List.length_map] at hs8
      obtain ⟨vn, hvn⟩ : ∃ vn, (nearOf xs d (l.take k)).length = vn := ⟨_, rfl⟩
      rw [hvn] at hs8
      have hvs : vn ≤ 4096 := by
        have := nearOf_len xs d (l.take k)
        rw [List.length_take] at this
        omega
      subst hs8
      by_cases hlt : k < n
      · have hltz : (k : Int) < (n : Int) := by omega
        obtain ⟨x, hx⟩ : ∃ x, l[k]? = some x := ⟨l[k]'(by have := HN.out; omega), List.getElem?_eq_getElem _⟩
        obtain ⟨g, off, had, hgb, hcell⟩ := HROW.out.at (by have := HN.out; omega)
        subst had
        obtain ⟨d0, d1⟩ := hcell k x hx
        have HC : Hid (∀ W, Below w.heap.size w W → SRA g (off + k * 2) x W) := fun W hW => ⟨(hW.cell (p := ⟨g, off + k * 2, none⟩) hgb).trans d0, (hW.cell (p := ⟨g, off + k * 2 + 1, none⟩) hgb).trans d1⟩
        obtain ⟨c0, c1⟩ := HC.out wr HB.out
        have HDX : Hid (∀ W, Calls Tryd.prog 32 #[.string x.1, .string word] W fun e w' => e = .returned (.tuple #[.int .i64 (lv (entOf x).1 xs : Int), .bool true]) ∧ Below W.heap.size W w') := HDS.out x (List.mem_of_getElem? hx)
        have HSN : Hid (nearOf xs d (l.take (k + 1)) = nearOf xs d (l.take k) ++ (if lv (entOf x).1 xs ≤ d then [(x.1, x.2, (lv (entOf x).1 xs : Int))] else [])) := nearOf_snoc xs d hx
        obtain ⟨y, hy⟩ : ∃ y, lv (entOf x).1 xs = y := ⟨_, rfl⟩
        rw [hy] at HDX HSN
        have hwk : IntKind.i64.wrap ((k : Int) + 1) = (k : Int) + 1 := by rw [IntKind.wrap_i64]; omega
        clear hx hcell d0 d1 hy hgb hvn
        by_cases hyd : y ≤ d
        · have hydz : (y : Int) ≤ (d : Int) := by omega
          go_upto_region 9 with (go_at_call 32; refine (HDX.out _).mono ?_; rintro e w2 ⟨rfl, hb2⟩)
          have hbW2 : Below w.heap.size w w2 := HB.out.trans (hb2.mono HB.out.size)
          obtain ⟨V3, hV3⟩ : ∃ V3, w2.drew = V3 := ⟨_, rfl⟩
          have hb3 : Below w2.heap.size w2 V3 := by rw [← hV3]; exact (Below.refl _ w2).drew
          obtain ⟨V4, hV4⟩ : ∃ V4, V3.alloc (.cells #[.string x.1, .int .i64 x.2, .int .i64 (y : Int)] 35) = V4 := ⟨_, rfl⟩
          have hb34 : Below V3.heap.size V3 V4 := by rw [← hV4]; exact (Below.refl _ V3).alloc (Nat.le_refl _) _
          have hn4 : V4.heap[V3.heap.size]? = some (.cells #[.string x.1, .int .i64 x.2, .int .i64 (y : Int)] 35) := by rw [← hV4]; exact alloc_newP _ _
          have hbr4 : Below wr.heap.size wr V4 := (hb2.trans (hb3.mono hb2.size)).trans (hb34.mono (Nat.le_trans hb2.size hb3.size))
          have hbW3 : Below w.heap.size w V3 := hbW2.trans (hb3.mono hbW2.size)
          have hbW4 : Below w.heap.size w V4 := hbW3.trans (hb34.mono hbW3.size)
          obtain ⟨v', W', hap, ho', hgr, hob⟩ := gappend_run rtyM (GOwn.below HG.out hbr4) hbW4.size (cellsM_ok (x.1, x.2, (y : Int))) (nb := V3.heap.size) (fun i u hi => by simp only [World.cell?, hn4]; simpa [cellsM] using hi) (by rw [List.length_map]; have h1 := nearOf_len xs d (l.take k); rw [List.length_take] at h1; omega) 27 1
          have hbW5 : Below w.heap.size w W' := hbW4.trans (gBelow (GOwn.below HG.out hbr4) hgr hbW4.size)
          obtain ⟨vd2, vn2, vc2, hvv2⟩ : ∃ vd vn vc, v' = .slice vd vn vc := by
            obtain ⟨ad, cap, e, _⟩ := GOwn.shape ho'
            exact ⟨_, _, _, e⟩
          subst hvv2
          have HEND : Hid (GOwn 35 3 w.heap.size W' (.slice vd2 vn2 vc2) ((nearOf xs d (l.take (k + 1))).map cellsM)) := by
            show GOwn _ _ _ _ _ _
            rw [HSN.out, if_pos hyd, List.map_append]
            exact ho'
          have HBE : Hid (Below w.heap.size w W') := hbW5
          have HAP : Hid ((Builtin.append_ #[27, 27] 27 #[.slice vd vn vc, .slice (some ⟨V3.heap.size, 0, none⟩) 1 1]).run Tryd.prog V4 = .ok (.slice vd2 vn2 vc2) W') := hap
          have HV4 : Hid (V3.alloc (.cells #[.string x.1, .int .i64 x.2, .int .i64 (y : Int)] 35) = V4) := hV4
          have hS3 := HC.out V3 hbW3
          have hS4 := HC.out V4 hbW4
          have hS5 := HC.out W' hbW5
          have hS3d : SRA g (off + k * 2) x w2.drew := by rw [hV3]; exact hS3
          clear hap ho' hgr hob hb3 hb34 hn4 hbr4 hbW3 hbW4 hbW5 hbW2 hb2 hV4 HG HB HSN c0 c1
          refine region_at (S := SRA g (off + k * 2) x) 16 rfl mixedP hS3d (fun _ => ?_)
          rw [hV3]
          clear hV3 hS3d
          refine take_at (i := 0) 38 rfl rfl (by kernel_rfl) (by kernel_rfl) (by kernel_rfl) (fun _ _ _ h => h) (by rfl) (fun w hSw => by (have hSw2 := SRA.facts hSw; clear hSw; go_simp; first | done | exact rfl)) (by assumption) ?_
          simp only [List.setIfInBounds_toArray, List.set_cons_zero, List.set_cons_succ]
          refine take_at (i := 1) 39 rfl rfl (by kernel_rfl) (by kernel_rfl) (by kernel_rfl) (fun _ _ _ h => h) (by rfl) (fun w hSw => by (have hSw2 := SRA.facts hSw; clear hSw; go_simp; first | done | exact rfl)) (by assumption) ?_
          simp only [List.setIfInBounds_toArray, List.set_cons_zero, List.set_cons_succ]
          refine take_at (i := 2) 40 rfl rfl (by kernel_rfl) (by kernel_rfl) (by kernel_rfl) (fun _ _ _ h => h) (by rfl) (fun w hSw => by (have hSw2 := SRA.facts hSw; clear hSw; go_simp; first | done | exact rfl)) (by assumption) ?_
          simp only [List.setIfInBounds_toArray, List.set_cons_zero, List.set_cons_succ]
          refine take_at (i := 3) 41 rfl rfl (by kernel_rfl) (by kernel_rfl) (by kernel_rfl) (fun _ _ _ h => h) (by rfl) (fun w hSw => by (have hSw2 := SRA.facts hSw; clear hSw; go_simp; first | done | exact rfl)) (by assumption) ?_
          simp only [List.setIfInBounds_toArray, List.set_cons_zero, List.set_cons_succ]
          refine take_at (i := 4) 42 rfl rfl (by kernel_rfl) (by kernel_rfl) (by kernel_rfl) (fun _ _ _ h => h) (by rfl) (fun w hSw => by (have hSw2 := SRA.facts hSw; clear hSw; go_simp; first | done | exact rfl)) (by assumption) ?_
          simp only [List.setIfInBounds_toArray, List.set_cons_zero, List.set_cons_succ]
          refine take_at (i := 5) 43 rfl rfl (by kernel_rfl) (by kernel_rfl) (by kernel_rfl) (fun _ _ _ h => h) (by rfl) (fun w hSw => by (have hSw2 := SRA.facts hSw; clear hSw; go_simp; first | done | exact rfl)) (by assumption) ?_
          simp only [List.setIfInBounds_toArray, List.set_cons_zero, List.set_cons_succ]
          refine take_at (i := 6) 44 rfl rfl (by kernel_rfl) (by kernel_rfl) (by kernel_rfl) (fun _ _ _ h => h) (by rfl) (fun w hSw => by (have hSw2 := SRA.facts hSw; clear hSw; go_simp; first | done | exact rfl)) (by assumption) ?_
          simp only [List.setIfInBounds_toArray, List.set_cons_zero, List.set_cons_succ]
          refine take_at (i := 7) 45 rfl rfl (by kernel_rfl) (by kernel_rfl) (by kernel_rfl) (fun _ _ _ h => h) (by rfl) (fun w hSw => by (have hSw2 := SRA.facts hSw; clear hSw; go_simp; first | done | exact rfl)) (by assumption) ?_
          simp only [List.setIfInBounds_toArray, List.set_cons_zero, List.set_cons_succ]
          refine take_at (i := 8) 46 rfl rfl (by kernel_rfl) (by kernel_rfl) (by kernel_rfl) (fun _ _ _ h => h) (by rfl) (fun w hSw => by (have hSw2 := SRA.facts hSw; clear hSw; go_simp; first | done | exact rfl)) (by assumption) ?_
          simp only [List.setIfInBounds_toArray, List.set_cons_zero, List.set_cons_succ]
          refine take_at (i := 9) 47 rfl rfl (by kernel_rfl) (by kernel_rfl) (by kernel_rfl) (fun _ _ _ h => h) (by rfl) (fun w hSw => by (have hSw2 := SRA.facts hSw; clear hSw; go_simp; first | done | exact rfl)) (by assumption) ?_
          simp only [List.setIfInBounds_toArray, List.set_cons_zero, List.set_cons_succ]
          refine take_at (i := 10) 48 rfl rfl (by kernel_rfl) (by kernel_rfl) (by kernel_rfl) (fun _ _ _ h => h) (by rfl) (fun w hSw => by (have hSw2 := SRA.facts hSw; clear hSw; go_simp; first | done | exact rfl)) (by assumption) ?_
          simp only [List.setIfInBounds_toArray, List.set_cons_zero, List.set_cons_succ]
          refine take_at (i := 11) 49 rfl rfl (by kernel_rfl) (by kernel_rfl) (by kernel_rfl) (fun _ _ _ h => h) (by rfl) (fun w hSw => by (have hSw2 := SRA.facts hSw; clear hSw; go_simp; first | done | exact rfl)) (by assumption) ?_
          simp only [List.setIfInBounds_toArray, List.set_cons_zero, List.set_cons_succ]
          refine take_at (i := 12) 50 rfl rfl (by kernel_rfl) (by kernel_rfl) (by kernel_rfl) (fun _ _ _ h => h) (by rfl) (fun w hSw => by (have hSw2 := SRA.facts hSw; clear hSw; go_simp; first | done | exact rfl)) (by assumption) ?_
          simp only [List.setIfInBounds_toArray, List.set_cons_zero, List.set_cons_succ]
          refine one_value (i := 13) (v := .slice (some ⟨V3.heap.size, 0, none⟩) 1 1) (w' := V4) 51 (by kernel_rfl) rfl rfl (by rfl) (by rw [← HV4.out]; go_simp; first | done | exact rfl) hS4 (fun _ => ?_)
          simp only [List.setIfInBounds_toArray, List.set_cons_zero, List.set_cons_succ]
          refine one_value (i := 14) (v := .slice vd2 vn2 vc2) (w' := W') 52 (by kernel_rfl) rfl rfl (by rfl) (exec_app HAP.out) hS5 (fun _ => ?_)
          simp only [List.setIfInBounds_toArray, List.set_cons_zero, List.set_cons_succ]
          refine one_value (i := 15) (v := .slice vd2 vn2 vc2) (w' := W') 8 (by kernel_rfl) rfl rfl (by rfl) (by kernel_rfl) hS5 (fun _ => ?_)
          simp only [List.setIfInBounds_toArray, List.set_cons_zero, List.set_cons_succ]
          refine wpAnyH_done (by kernel_rfl) ?_ _
          clear hS3 hS4 hS5 HAP HV4
          go_wp2
          go_roundg (n - (k + 1))
          case measure => omega
          case rel => exact ⟨k + 1, by go_num, by omega, Nat.le_refl _, HEND, HBE⟩
        · have hydz : ¬ (y : Int) ≤ (d : Int) := by omega
          have HG2 : Hid (∀ W, Below wr.heap.size wr W → GOwn 35 3 w.heap.size W (.slice vd vn vc) ((nearOf xs d (l.take (k + 1))).map cellsM)) := fun W hW => by
            rw [HSN.out, if_neg hyd, List.append_nil]
            exact GOwn.below HG.out hW
          go_wp2_with (go_at_call 32; refine (HDX.out _).mono ?_; rintro e w2 ⟨rfl, hb2⟩)
          go_roundg (n - (k + 1))
          case measure => omega
          case rel => exact ⟨k + 1, by go_num, by omega, Nat.le_refl _, HG2.out _ hb2, HB.out.trans (hb2.mono HB.out.size)⟩
      · have hkn : k = n := by omega
        have hnlt : ¬ (k : Int) < (n : Int) := by omega
        have HFIN : Hid (AllSays w wr l word.data.toList (d : Int) (.slice vd vn vc) 0) := by
          refine HRT.out _ _ HB.out ?_
          have h1 := HG.out
          rw [hkn, List.take_of_length_le (by rw [HN.out]; exact Nat.le_refl _)] at h1
          exact h1
        clear hk HG hkn hvn
        go_wp2
        go_ret2
        exact ⟨_, _, rfl, HFIN.out⟩
def al12 : List Pr := [(⟨#[97]⟩, 3), (⟨#[97, 98]⟩, 5), (⟨#[98, 98]⟩, 2), (⟨#[120, 121, 122]⟩, 1)]
theorem al12_on : onB al12 = true := by decide +kernel
theorem al12_sm : Sm al12 := by unfold Sm al12; decide
theorem lvx (n : Nat) (a b : List Int) (c : Nat) (h : a.length + b.length ≤ n) (e : lvF n a b = c) : lv a b = c := by rw [← lvF_eq n a b h, e]
theorem al12_near : nearOf [97, 98] 1 al12 = [(⟨#[97]⟩, 3, 1), (⟨#[97, 98]⟩, 5, 0), (⟨#[98, 98]⟩, 2, 1)] := by
  have e1 : (entOf (⟨#[97]⟩, 3)).1 = [97] := by decide +kernel
  have e2 : (entOf (⟨#[97, 98]⟩, 5)).1 = [97, 98] := by decide +kernel
  have e3 : (entOf (⟨#[98, 98]⟩, 2)).1 = [98, 98] := by decide +kernel
  have e4 : (entOf (⟨#[120, 121, 122]⟩, 1)).1 = [120, 121, 122] := by decide +kernel
  have l1 : lv [97] [97, 98] = 1 := lvx 3 _ _ _ (by decide) (by decide +kernel)
  have l2 : lv [97, 98] [97, 98] = 0 := lvx 4 _ _ _ (by decide) (by decide +kernel)
  have l3 : lv [98, 98] [97, 98] = 1 := lvx 4 _ _ _ (by decide) (by decide +kernel)
  have l4 : lv [120, 121, 122] [97, 98] = 3 := lvx 5 _ _ _ (by decide) (by decide +kernel)
  simp [nearOf, al12, e1, e2, e3, e4, l1, l2, l3, l4]
theorem four_new (w : World) (x y z u : Pr) (T : TypeId) (c : Nat) : PRow (w.alloc (.cells #[.string x.1, .int .i64 x.2, .string y.1, .int .i64 y.2, .string z.1, .int .i64 z.2, .string u.1, .int .i64 u.2] T)) (.slice (some ⟨w.heap.size, 0, none⟩) 4 c) [x, y, z, u] := by
  refine ⟨_, c, rfl, fun _ => ⟨w.heap.size, 0, rfl, by simp, fun i q hi => ?_⟩⟩
  match i, hi with
  | 0, hi => simp at hi; subst hi; exact ⟨by simp, by simp⟩
  | 1, hi => simp at hi; subst hi; exact ⟨by simp, by simp⟩
  | 2, hi => simp at hi; subst hi; exact ⟨by simp, by simp⟩
  | 3, hi => simp at hi; subst hi; exact ⟨by simp, by simp⟩
  | n + 4, hi => simp at hi
theorem All_ab (w : World) (wb : Nat) (hon : WkOn w wb al12) : Calls Tryd.prog 10 #[.pointer (some ⟨wb, 0, none⟩), .string { data := #[97, 98] }, .int .i64 1] w fun x w' => ∃ g cap, x = .returned (.tuple #[.slice (some ⟨g, 0, none⟩) 3 cap, .int .i64 0]) ∧ 3 ≤ cap ∧ w'.cell? ⟨g, 6, none⟩ = some (.string { data := #[98, 98] }) ∧ w'.cell? ⟨g, 7, none⟩ = some (.int .i64 2) ∧ w'.cell? ⟨g, 8, none⟩ = some (.int .i64 1) ∧ Below w.heap.size w w' := by
  refine (All_any w wb al12 hon { data := #[97, 98] } 1 (by decide)).mono ?_
  rintro x w' ⟨v, c, rfl, hb, ⟨hn, _⟩ | ⟨_, rfl, xs, d, hx, hd, _, _, hG⟩⟩
  · have h2 : Go.Proofs.YthfngcpcccbnpaaDoor.rightB [97, 98] 1 = true := by decide +kernel
    rw [show (ByteArray.mk #[97, 98]).data.toList = [97, 98] from rfl, h2] at hn
    cases hn
  · have h1 : rs [97, 98] = some [97, 98] := by decide +kernel
    obtain rfl : [97, 98] = xs := Option.some.inj (h1.symm.trans hx)
    obtain rfl : d = 1 := by omega
    rw [al12_near] at hG
    obtain ⟨g, cap, hv, _, _, hc, hcell⟩ := GOwn.cell hG (by simp)
    exact ⟨g, cap, by rw [hv]; rfl, hc, hcell 2 0 _ _ rfl rfl, hcell 2 1 _ _ rfl rfl, hcell 2 2 _ _ rfl rfl, hb⟩
set_option maxHeartbeats 2000000 in
theorem alive12_any (w : World) (ht : Tabs w) : Calls Tryd.prog 9 #[] w fun e w' => e = .returned (.bool true) ∧ Below w.heap.size w w' := by
  have HT : Hid (Tabs w) := ht
  obtain ⟨W0, hW0⟩ : ∃ W0, w.alloc (.cells #[.string ⟨#[97]⟩, .int .i64 3, .string ⟨#[97, 98]⟩, .int .i64 5, .string ⟨#[98, 98]⟩, .int .i64 2, .string ⟨#[120, 121, 122]⟩, .int .i64 1] 62) = W0 := ⟨_, rfl⟩
  have hb0 : Below w.heap.size w W0 := by rw [← hW0]; exact (Below.refl _ w).alloc (Nat.le_refl _) _
  have HB0 : Hid (Below w.heap.size w W0) := hb0
  obtain ⟨ab, hab⟩ : ∃ ab, w.heap.size = ab := ⟨_, rfl⟩
  have HON : Hid (Calls Tryd.prog 8 #[.slice (some ⟨ab, 0, none⟩) 4 4] W0 fun e w' => ∃ wb, e = .returned (.tuple #[.pointer (some ⟨wb, 0, none⟩), .bool true]) ∧ W0.heap.size ≤ wb ∧ WkOn w' wb al12 ∧ Below W0.heap.size W0 w') := on12_yes W0 (ht.below hb0) _ al12 (by rw [← hW0, ← hab]; exact four_new w (⟨#[97]⟩, 3) (⟨#[97, 98]⟩, 5) (⟨#[98, 98]⟩, 2) (⟨#[120, 121, 122]⟩, 1) _ 4) (by decide) al12_sm al12_on
  have HE : Hid (w.alloc (.cells #[.string ⟨#[97]⟩, .int .i64 3, .string ⟨#[97, 98]⟩, .int .i64 5, .string ⟨#[98, 98]⟩, .int .i64 2, .string ⟨#[120, 121, 122]⟩, .int .i64 1] 62) = W0 ∧ w.heap.size = ab) := ⟨hW0, hab⟩
  have s1 : (({ data := #[98, 98] } : ByteArray).toList == ({ data := #[98, 98] } : ByteArray).toList) = true := by simp
  clear ht hb0 hW0 hab
  go_enter Tryd.func9, Tryd.ntmps9
  go_wp2_with (first
    | (go_at_call 8; rw [HE.out.1, HE.out.2]; refine HON.out.mono ?_; rintro e w1 ⟨wb, rfl, _, hon, hb1⟩; have HB1 : Hid (Below w.heap.size w w1) := HB0.out.trans (hb1.mono HB0.out.size); have HW : Hid (WkOn w1 wb al12) := hon; clear hb1 hon)
    | (go_at_call 10; refine (All_ab w1 wb HW.out).mono ?_; rintro e w2 ⟨g, cap, rfl, hcap, c0, c1, c2, hb2⟩; have HB2 : Hid (Below w.heap.size w w2) := HB1.out.trans (hb2.mono HB1.out.size); clear hb2))
  go_ret
  exact ⟨by first | rfl | simp, HB2.out⟩
end Go.Proofs.YthfngcpcccbnpaaDoor

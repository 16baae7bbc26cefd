/- best.Select. -/
import Derived.Test.YtmpfcdffpjocnaaBtTake
namespace Go.Proofs.Ytmpfcdffpjocnaa
open Go.RowKit Go.Lib Nums Pm
set_option maxRecDepth 100000
namespace Bt
/-- A row of matches that is read. -/
def MRow (w : World) (v : Value) (l : List Mt) : Prop := GRow w.heap.size 3 w v (l.map cellsM)
theorem MRow.below {w w' : World} {v : Value} {l : List Mt} (h : MRow w v l) (hb : Below w.heap.size w w') : MRow w' v l := (GRow.below h hb).mono hb.size
theorem MRow.form {w : World} {v : Value} {l : List Mt} (h : MRow w v l) : ∃ ad cap, v = .slice ad l.length cap := by
  obtain ⟨ad, cap, e⟩ := GRow.shape h
  exact ⟨ad, cap, by rw [e, List.length_map]⟩
theorem MRow.at {w : World} {ad : Option Addr} {n cap : Nat} {l : List Mt} (h : MRow w (.slice ad n cap) l) (h0 : 0 < l.length) : ∃ g off, ad = some ⟨g, off, none⟩ ∧ g < w.heap.size ∧ ∀ k x, l[k]? = some x → w.cell? ⟨g, off + k * 3, none⟩ = some (.string x.1) ∧ w.cell? ⟨g, off + k * 3 + 1, none⟩ = some (.int .i64 x.2.1) ∧ w.cell? ⟨g, off + k * 3 + 2, none⟩ = some (.int .i64 x.2.2) := by
  obtain ⟨ad', cap', hv, hc⟩ := h.ex
  simp only [Value.slice.injEq] at hv
  obtain ⟨g, off, rfl, hg, hx⟩ := hc (by rw [List.length_map]; omega)
  refine ⟨g, off, hv.1, hg, fun k x hk => ?_⟩
  have e : (l.map cellsM)[k]? = some (cellsM x) := by rw [List.getElem?_map, hk]; rfl
  exact ⟨hx k 0 _ _ e rfl, hx k 1 _ _ e rfl, hx k 2 _ _ e rfl⟩
theorem MRow.load {w : World} {ad : Option Addr} {n cap : Nat} {l : List Mt} (h : MRow w (.slice ad n cap) l) {k : Nat} {x : Mt} (hk : l[k]? = some x) : ∃ g off, ad = some ⟨g, off, none⟩ ∧ g < w.heap.size ∧ loadM Try.prog (.pointer (some ⟨g, off + k * 3, none⟩)) w = .ok (valM x) w := by
  obtain ⟨g, off, rfl, hg, hc⟩ := h.at (by have := (List.getElem?_eq_some_iff.1 hk).1; omega)
  obtain ⟨c0, c1, c2⟩ := hc k x hk
  exact ⟨g, off, rfl, hg, loadM_at c0 c1 c2⟩
theorem GOwn.reads_m {B : Nat} {w : World} {v : Value} {l : List Mt} (h : GOwn 23 3 B w v (l.map cellsM)) : MRow w v l := GOwn.reads h
def kk (k : Int) : Nat := (min k 64).toNat
theorem bestF_take (k : Nat) (l : List Mt) (j : Nat) (x : Mt) (hx : l[j]? = some x) : bestF k (l.take (j + 1)) = stp k (bestF k (l.take j)) x := by
  obtain ⟨hj, e⟩ := List.getElem?_eq_some_iff.1 hx
  rw [List.take_succ_eq_append_getElem hj, bestF_snoc, e]
/-- What is known behind j matches. -/
structure SeR (w : World) (p : Nat) (k : Int) (l : List Mt) (j : Nat) (wr : World) (h : List Mt) (vk : Value) : Prop where
  K : KAt w.heap.size wr p (min k 64) vk h
  kp : Kp (kk k) (bestF (kk k) (l.take j)) h
  bel : Below w.heap.size w wr
theorem SeR.step {w : World} {p : Nat} {k : Int} {l : List Mt} {j : Nat} {wr W w' : World} {h : List Mt} {vk : Value} {x : Mt} (R : SeR w p k l j wr h vk) (hb : Below wr.heap.size wr W) (hx : l[j]? = some x) (A : AddSays w.heap.size W w' p (min k 64) vk (bestF (kk k) (l.take j)) x) : ∃ h' v', SeR w p k l (j + 1) w' h' v' := by
  obtain ⟨v', h', hK, hkp, _⟩ := A.ex
  refine ⟨h', v', hK, ?_, ?_⟩
  · rw [bestF_take _ _ _ _ hx]; exact hkp
  · have hbW : Below w.heap.size w W := R.bel.trans (hb.mono R.bel.size)
    exact hbW.trans (A.up.below (fun q hq => KF.low R.K hq) hbW.size)
/-- A match is laid into a new block. -/
theorem new_store (w2 : World) (x : Mt) :
    ∃ W3, storeM Try.prog (.pointer (some ⟨w2.heap.size, 0, none⟩)) (valM x) (w2.alloc (.cells #[.string ⟨#[]⟩, .int .i64 0, .int .i64 0] 23)) = .ok () W3 ∧ Below w2.heap.size w2 W3 ∧ loadM Try.prog (.pointer (some ⟨w2.heap.size, 0, none⟩)) W3 = .ok (valM x) W3 ∧ W3.heap[w2.heap.size]? = some (.cells (cellsM x).toArray 23) := by
  obtain ⟨V3, hV3⟩ : ∃ V3, w2.alloc (.cells #[.string ⟨#[]⟩, .int .i64 0, .int .i64 0] 23) = V3 := ⟨_, rfl⟩
  have hb3 : Below w2.heap.size w2 V3 := by rw [← hV3]; exact (Below.refl _ w2).alloc (Nat.le_refl _) _
  have hn3 : V3.heap[w2.heap.size]? = some (.cells #[.string ⟨#[]⟩, .int .i64 0, .int .i64 0] 23) := by rw [← hV3]; exact alloc_newM _ _
  obtain ⟨W3, hst, hu3, hc3⟩ := own_store V3 w2.heap.size _ _ _ hn3 x
  rw [hV3]
  exact ⟨W3, hst, hb3.trans (hu3.below (B := w2.heap.size) (fun k e => by have : k = w2.heap.size := e; omega) hb3.size), own_load hc3, hc3⟩
attribute [local go_sem ↓] exec_load_M exec_store_M
set_option maxHeartbeats 1000000 in
theorem Select_any (w : World) (v : Value) (l : List Mt) (k : Int) (h : MRow w v l) (hl : l.length < 4611686018427387904) :
    Calls Try.prog 14 #[v, .int .i64 k] w fun e w' => ∃ vl, e = .returned vl ∧ GOwn 23 3 w.heap.size w' vl ((bestF (kk k) l).map cellsM) ∧ Below w.heap.size w w' := by
  obtain ⟨ad, cap, rfl⟩ := h.form
  obtain ⟨n, hn⟩ : ∃ n, l.length = n := ⟨_, rfl⟩
  rw [hn] at h hl ⊢
  have HROW : Hid (MRow w (.slice ad n cap) l) := h
  have HN : Hid (l.length = n) := hn
  have HNEW : Hid (Calls Try.prog 16 #[.int .i64 k] w fun e w' => e = .returned (.pointer (some ⟨w.heap.size, 0, none⟩)) ∧ KAt w.heap.size w' w.heap.size (min k 64) (.slice none 0 0) [] ∧ Below w.heap.size w w') := New_any w k
  have hmf : ∀ (fn : Fn) (first cap : Array Value) (w : World), (Instr.makeFunc fn first cap).run Try.prog w = .ok (.func fn first cap) w := fun _ _ _ _ => rfl
  obtain ⟨p, hp⟩ : ∃ p, w.heap.size = p := ⟨_, rfl⟩
  rw [hp] at HNEW
  have HP : Hid (w.heap.size = p) := hp
  clear h hn hp
  go_enter Try.func14, Try.ntmps14
  go_wp2_with (go_at_call 16; refine HNEW.out.mono ?_; rintro e w1 ⟨rfl, hK1, hb1⟩; have HR0 : Hid (∃ h vk, SeR w p k l 0 w1 h vk) := ⟨[], .slice none 0 0, by rw [HP.out]; exact hK1, by rw [List.take_zero]; exact Kp.nil _, by rw [HP.out]; exact hb1⟩; clear hK1 hb1)
  go_loopg [15] n (fun g s15 wr => ∃ (j : Nat), s15 = .int .i64 j ∧ j ≤ n ∧ n - j ≤ g ∧ Hid (∃ h vk, SeR w p k l j wr h vk))
  case atStart => exact ⟨0, rfl, Nat.zero_le _, by omega, HR0⟩
  case round =>
    obtain ⟨j, rfl, hjn, hg, HR⟩ := hrel
    by_cases hlt : j < n
    · have hltz : (j : Int) < (n : Int) := by omega
      obtain ⟨x, hx⟩ : ∃ x, l[j]? = some x := ⟨l[j]'(by have := HN.out; omega), List.getElem?_eq_getElem _⟩
      obtain ⟨h', vk, hR⟩ := HR.out
      have HS : Hid (SeR w p k l j wr h' vk) := hR
      obtain ⟨g0, off, rfl, hg0, hld⟩ := (HROW.out.below hR.bel).load hx
      obtain ⟨W3, hst, hbW, hld2, _⟩ := new_store wr x
      have HAD : Hid (Calls Try.prog 17 #[.pointer (some ⟨p, 0, none⟩), valM x] W3 fun e w' => e = .returned (.bool (wantB (kk k) (bestF (kk k) (l.take j)) x)) ∧ AddSays w.heap.size W3 w' p (min k 64) vk (bestF (kk k) (l.take j)) x) := Add_any w.heap.size W3 p (min k 64) vk h' _ x (hR.K.below hbW) hR.kp (by omega)
      have HX : Hid (l[j]? = some x) := hx
      have HBW : Hid (Below wr.heap.size wr W3) := hbW
      clear hx hR hg0 hbW HR
      go_wp2_with (go_at_call 17; refine HAD.out.mono ?_; rintro e w4 ⟨rfl, hA⟩; have HR4 : Hid (∃ h vk, SeR w p k l (j + 1) w4 h vk) := HS.out.step HBW.out HX.out hA; clear hA)
      go_roundg (n - (j + 1))
      case measure => omega
      case rel => exact ⟨j + 1, by go_num, by omega, Nat.le_refl _, HR4⟩
    · have hkn : j = n := by omega
      subst hkn
      obtain ⟨h', vk, hR⟩ := HR.out
      have HTK : Hid (Calls Try.prog 20 #[.pointer (some ⟨p, 0, none⟩)] wr fun e w' => ∃ vl, e = .returned vl ∧ GOwn 23 3 wr.heap.size w' vl ((bestF (kk k) (l.take j)).map cellsM) ∧ Upd (KF p vk) wr w' ∧ ∃ v', KAt w.heap.size w' p (min k 64) v' [] ∧ v'.ownBlock = vk.ownBlock) := Take_any w.heap.size wr p (min k 64) vk h' _ hR.K hR.kp (by omega)
      have HE : Hid (l.take j = l) := List.take_of_length_le (by have := HN.out; omega)
      have HS : Hid (SeR w p k l j wr h' vk) := hR
      clear hR HR
      go_wp2_with (go_at_call 20; refine HTK.out.mono ?_; rintro e w4 ⟨vl, rfl, hgo, hu4, _⟩)
      go_ret
      refine ⟨vl, rfl, ?_, ?_⟩
      · have := hgo.mono (B' := w.heap.size) HS.out.bel.size
        rw [HE.out] at this
        exact this
      · exact HS.out.bel.trans (hu4.below (fun q hq => KF.low HS.out.K hq) HS.out.bel.size)
end Bt
end Go.Proofs.Ytmpfcdffpjocnaa

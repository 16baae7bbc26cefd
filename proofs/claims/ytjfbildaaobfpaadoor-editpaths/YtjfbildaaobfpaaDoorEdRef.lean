/- The reference's Distance. -/
import Derived.Test.YtjfbildaaobfpaaDoorEdFar
namespace Go.Proofs.YtjfbildaaobfpaaDoor
open Go.RowKit Nums Ed
set_option maxRecDepth 100000

/-- What the reference's Runes has told of a text. -/
def RunSays (w w' : World) (l : List UInt8) (v : Value) (f : Bool) : Prop :=
  (f = false ∧ rs l = none ∧ v = .slice none 0 0) ∨ (f = true ∧ ∃ xs, rs l = some xs ∧ Made w.heap.size w' v xs)
theorem RefRunes_is (s : ByteArray) (w : World) (hm : s.size ≤ 1000000) :
    Calls Tryd.prog 16 #[.string s] w fun e w' => ∃ v f, e = .returned (.tuple #[v, .bool f]) ∧ Below w.heap.size w w' ∧ RunSays w w' s.data.toList v f := by
  refine (RefRunes_any s w (by omega) (room_of_length (by rw [size_length]; omega))).mono ?_
  rintro e w' ⟨v, hb, ⟨hn, rfl, rfl⟩ | ⟨xs, hs, rfl, hm⟩⟩
  · exact ⟨_, _, rfl, hb, .inl ⟨rfl, hn, rfl⟩⟩
  · exact ⟨_, _, rfl, hb, .inr ⟨rfl, xs, hs, hm⟩⟩

set_option maxHeartbeats 1000000 in
theorem refDistance_is (a b : ByteArray) (w : World) (ha : a.size ≤ 1200) (hb : b.size ≤ 1200) :
    Calls Tryd.prog 14 #[.string a, .string b] w fun e w' => e = .returned (.tuple #[.int .i64 (dN (dsE a.data.toList b.data.toList)), .bool (dF (dsE a.data.toList b.data.toList))]) ∧ Below w.heap.size w w' := by
  go_enter Tryd.func14, Tryd.ntmps14
  go_upto_region 2 with (go_at_call 16; refine (RefRunes_is a _ (by omega)).mono ?_; rintro e w1 ⟨v, f, rfl, hb1, hc1⟩)
  go_upto_region 3 with (go_at_call 16; refine (RefRunes_is b _ (by omega)).mono ?_; rintro e w2 ⟨u, f2, rfl, hb2, hc2⟩)
  have hb12 : Below w.heap.size w w2 := hb1.trans (hb2.mono hb1.size)
  rcases hc1 with ⟨rfl, h1, rfl⟩ | ⟨rfl, xs, h1, m1⟩
  · have HF : Hid (dsE a.data.toList b.data.toList = none) := dsE_left (rsE_none h1)
    clear h1 hc2
    go_wp2
    go_ret2
    exact ⟨by rw [HF.out]; rfl, hb12⟩
  rcases hc2 with ⟨rfl, h2, rfl⟩ | ⟨rfl, ys, h2, m2⟩
  · have HF : Hid (dsE a.data.toList b.data.toList = none) := dsE_right (rsE_none h2)
    clear h1 h2
    go_wp2
    go_ret2
    exact ⟨by rw [HF.out]; rfl, hb12⟩
  have HX : Hid (RunesAt w2.heap.size w2 v xs) := (m1.below hb2).runes
  have HY : Hid (RunesAt w2.heap.size w2 u ys) := m2.runes
  clear m1 m2
  obtain ⟨adx, capx, rfl⟩ := HX.out.form
  obtain ⟨ady, capy, rfl⟩ := HY.out.form
  have hxl := (rs_len h1).2
  have hyl := (rs_len h2).2
  rw [size_length] at hxl hyl
  by_cases hx : xs.length ≤ 1024
  · by_cases hy : ys.length ≤ 1024
    · have HF : Hid (dsE a.data.toList b.data.toList = some (lv xs ys)) := dsE_some (rsE_some h1 hx) (rsE_some h2 hy)
      clear h1 h2
      go_wp2_with (go_at_call 23; refine (Far_any _ _ xs ys _ HX.out HY.out (by omega) (by omega)).mono ?_; rintro e w3 ⟨rfl, hb3⟩)
      go_ret2
      exact ⟨by rw [HF.out]; rfl, hb12.trans (hb3.mono hb12.size)⟩
    · have HF : Hid (dsE a.data.toList b.data.toList = none) := dsE_right (rsE_long h2 hy)
      clear h1 h2
      go_wp2
      go_ret2
      exact ⟨by rw [HF.out]; rfl, hb12⟩
  · have HF : Hid (dsE a.data.toList b.data.toList = none) := dsE_left (rsE_long h1 hx)
    clear h1 h2
    go_wp2
    go_ret2
    exact ⟨by rw [HF.out]; rfl, hb12⟩
theorem refDistance_acc {w0 w : World} (h : Acc w0 w) (a b : ByteArray) (ha : a.size ≤ 1200) (hb : b.size ≤ 1200) :
    Calls Tryd.prog 14 #[.string a, .string b] w fun e w' => e = .returned (.tuple #[.int .i64 (dN (dsE a.data.toList b.data.toList)), .bool (dF (dsE a.data.toList b.data.toList))]) ∧ Acc w0 w' := by
  refine (refDistance_is a b w ha hb).mono ?_
  rintro e w' ⟨rfl, h2⟩
  exact ⟨rfl, h.step h2⟩
end Go.Proofs.YtjfbildaaobfpaaDoor

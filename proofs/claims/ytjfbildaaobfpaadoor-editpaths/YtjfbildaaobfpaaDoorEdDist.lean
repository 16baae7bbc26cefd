/- edit.rows, read, both. -/
import Derived.Test.YtjfbildaaobfpaaDoorEdNext
import Derived.Handy
namespace Go.Proofs.YtjfbildaaobfpaaDoor
open Go.RowKit Nums Ed
set_option maxRecDepth 100000

set_option maxHeartbeats 1000000 in
theorem read_any (s : ByteArray) (w : World) (ht : Tabs w) (hm : s.size ≤ 9223372036854775807) :
    Calls Tryd.prog 28 #[.string s] w fun e w' => ∃ v f, e = .returned (.tuple #[v, .bool f]) ∧ Below w.heap.size w w' ∧
      ((f = false ∧ rsE s.data.toList = none) ∨ (f = true ∧ ∃ xs, rsE s.data.toList = some xs ∧ Made w.heap.size w' v xs)) := by
  by_cases hlen : 4096 < s.size
  · have HF : Hid (rsE s.data.toList = none) := rsE_far (by rw [size_length]; exact hlen)
    go_enter Tryd.func28, Tryd.ntmps28
    go_wp2
    go_ret2
    exact ⟨_, _, rfl, Below.refl _ _, .inl ⟨rfl, HF.out⟩⟩
  · have HR : Hid (Room s.data.toList) := room_of_length (by rw [size_length]; omega)
    go_enter Tryd.func28, Tryd.ntmps28
    go_upto_region 4 with (go_at_call 35; refine (Runes_any s _ ht (by omega) HR.out).mono ?_; rintro e w1 ⟨v, hb1, ⟨hn, rfl, rfl⟩ | ⟨xs, hsome, rfl, hmade⟩⟩)
    · have HF : Hid (rsE s.data.toList = none) := rsE_none hn
      clear hn
      go_wp2
      go_returns
      exact ⟨_, _, rfl, hb1, .inl ⟨rfl, HF.out⟩⟩
    · obtain ⟨ad, cap, rfl⟩ := hmade.runes.form
      by_cases hx : xs.length ≤ 1024
      · have HF : Hid (rsE s.data.toList = some xs) := rsE_some hsome hx
        clear hsome
        go_wp2
        go_returns
        exact ⟨_, _, rfl, hb1, .inr ⟨by simp; omega, xs, HF.out, hmade⟩⟩
      · have HF : Hid (rsE s.data.toList = none) := rsE_long hsome hx
        clear hsome
        go_wp2
        go_returns
        exact ⟨_, _, rfl, hb1, .inl ⟨by simp; omega, HF.out⟩⟩

/-- What both tells of two texts. -/
def BothSays (w w' : World) (a b : List UInt8) (v u : Value) (f : Bool) : Prop :=
  Below w.heap.size w w' ∧ ((f = false ∧ dsE a b = none) ∨ (f = true ∧ ∃ xs ys, rsE a = some xs ∧ rsE b = some ys ∧ Made w.heap.size w' v xs ∧ Made w.heap.size w' u ys))
theorem Made.mono {B B' : Nat} {w : World} {v : Value} {xs : List Int} (h : Made B w v xs) (hB : B' ≤ B) : Made B' w v xs := by
  obtain ⟨hl, hn | ⟨g, cap, cur, rfl, h1, h2⟩⟩ := h
  · exact ⟨hl, .inl hn⟩
  · exact ⟨hl, .inr ⟨g, cap, cur, rfl, by omega, h2⟩⟩
set_option maxHeartbeats 1000000 in
theorem both_any (a b : ByteArray) (w : World) (ht : Tabs w) (ha : a.size ≤ 9223372036854775807) (hb : b.size ≤ 9223372036854775807) :
    Calls Tryd.prog 19 #[.string a, .string b] w fun e w' => ∃ v u f, e = .returned (.tuple #[v, u, .bool f]) ∧ BothSays w w' a.data.toList b.data.toList v u f := by
  go_enter Tryd.func19, Tryd.ntmps19
  go_upto_region 2 with (go_at_call 28; refine (read_any a _ ht ha).mono ?_; rintro e w1 ⟨v, f, rfl, hb1, hcase⟩)
  have ht1 : Tabs w1 := ht.below hb1
  go_upto_region 3 with (go_at_call 28; refine (read_any b _ ht1 hb).mono ?_; rintro e w2 ⟨u, f2, rfl, hb2, hcase2⟩)
  have hb12 : Below w.heap.size w w2 := hb1.trans (hb2.mono hb1.size)
  have HF : Hid (BothSays w w2 a.data.toList b.data.toList v u (f && f2)) := by
    refine ⟨hb12, ?_⟩
    rcases hcase with ⟨rfl, h1⟩ | ⟨rfl, xs, h1, m1⟩
    · exact .inl ⟨rfl, dsE_left h1⟩
    · rcases hcase2 with ⟨rfl, h2⟩ | ⟨rfl, ys, h2, m2⟩
      · exact .inl ⟨rfl, dsE_right h2⟩
      · exact .inr ⟨rfl, xs, ys, h1, h2, m1.below hb2, m2.mono hb1.size⟩
  clear hcase hcase2 hb12
  cases f
  all_goals
    go_wp2
    go_returns
    exact ⟨_, _, _, rfl, HF.out⟩
end Go.Proofs.YtjfbildaaobfpaaDoor

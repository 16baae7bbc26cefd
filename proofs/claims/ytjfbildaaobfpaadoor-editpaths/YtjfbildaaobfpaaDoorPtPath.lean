/- edit.Path. -/
import Derived.Test.YtjfbildaaobfpaaDoorPtTurn2
import Derived.Test.YtjfbildaaobfpaaDoorPtAlign
import Derived.Test.YtjfbildaaobfpaaDoorEdDist
namespace Go.Proofs.YtjfbildaaobfpaaDoor
open Go.RowKit Nums Ed
set_option maxRecDepth 100000

/-- What Path tells. -/
def PathSays (w w' : World) (a b : List UInt8) (v : Value) (f : Bool) : Prop :=
  Below w.heap.size w w' ∧ ((f = false ∧ v = .slice none 0 0 ∧ dsE a b = none) ∨ (f = true ∧ ∃ (x y : List Int) (ls : List (List Int)), rs a = some x ∧ rs b = some y ∧ dsE a b = some (lv x y) ∧ SMade w.heap.size w' v (ls.map textS) ∧ Way ls x y ∧ ls.length = lv x y + 1 ∧ ∀ l ∈ ls, l.all isR = true ∧ l.length ≤ 4000))
set_option maxHeartbeats 1000000 in
theorem Path_any (a b : ByteArray) (w : World) (ht : Tabs w) (ha : a.size ≤ 9223372036854775807) (hb : b.size ≤ 9223372036854775807) :
    Calls Tryd.prog 18 #[.string a, .string b] w fun e w' => ∃ v f, e = .returned (.tuple #[v, .bool f]) ∧ PathSays w w' a.data.toList b.data.toList v f := by
  go_enter Tryd.func18, Tryd.ntmps18
  go_upto_region 2 with (go_at_call 19; refine (both_any a b _ ht ha hb).mono ?_; rintro e w1 ⟨vx, vy, f, rfl, hbo⟩)
  obtain ⟨hb1, ⟨rfl, hno⟩ | ⟨rfl, xs, ys, h1, h2, m1, m2⟩⟩ := hbo
  · have HF : Hid (dsE a.data.toList b.data.toList = none) := hno
    clear hno
    go_wp2
    go_ret2
    exact ⟨_, _, rfl, hb1, .inl ⟨rfl, rfl, HF.out⟩⟩
  have HF : Hid (dsE a.data.toList b.data.toList = some (lv xs ys)) := dsE_some h1 h2
  have hxl := (rsE_out h1).2
  have hyl := (rsE_out h2).2
  have H1 : Hid (rs a.data.toList = some xs) := (rsE_out h1).1
  have H2 : Hid (rs b.data.toList = some ys) := (rsE_out h2).1
  clear h1 h2
  have HX : Hid (RunesAt w1.heap.size w1 vx xs) := m1.runes
  have HY : Hid (RunesAt w1.heap.size w1 vy ys) := m2.runes
  have ht1 : Tabs w1 := ht.below hb1
  clear m1 m2
  go_wp2_with (first
    | (go_at_call 27; refine (aligned_any vx vy xs ys _ HX.out HY.out (by omega) (by omega) (rs_write H1.out).1 (rs_write H2.out).1).mono ?_; rintro e w2 ⟨vF, vT, F, T, gF, gT, rfl, hLF, hLT, hne, hgF, hunF, hunT, hlen, hsm, hdif, hokF, hokT, hb2⟩)
    | (go_at_call 26; refine (turned_any w1 vF vT gF gT F T _ ht1 hb2 hgF hLF hLT hne hlen (by omega) hokF hokT).mono ?_; rintro e w3 ⟨v, ls, rfl, hS, hway, hcnt, hok, hb3⟩))
  go_ret2
  have hb12 : Below w.heap.size w w2 := hb1.trans (hb2.mono hb1.size)
  have hgw : w.heap.size ≤ gF := Nat.le_trans hb1.size hgF
  refine ⟨_, _, rfl, hb12.trans (hb3.below hgw hb12.size), .inr ⟨rfl, xs, ys, ls, H1.out, H2.out, HF.out, hS.mono hb12.size, ?_, by rw [hcnt, hdif], fun l hl => ⟨(hok l hl).1, by have := (hok l hl).2; omega⟩⟩⟩
  rw [hunF, hunT] at hway
  exact hway
theorem textS_of {a : ByteArray} {x : List Int} (h : rs a.data.toList = some x) : textS x = a := by
  obtain ⟨h1, h2⟩ := rs_write h
  have hd : (textS x).data.toList = x.flatMap wr := by unfold textS; rw [if_pos (show allR x = true from h1), strOfNums_data, flat_bytes]
  rw [h2] at hd
  cases hx : textS x; cases a
  rw [hx] at hd
  simp at hd; simp [hd]
theorem rs_textS {x : List Int} (h : x.all isR = true) : rs (textS x).data.toList = some x := by
  have hd : (textS x).data.toList = x.flatMap wr := by unfold textS; rw [if_pos (show allR x = true from h), strOfNums_data, flat_bytes]
  rw [hd]; exact rs_text h
theorem textS_size {x : List Int} (h : x.all isR = true) : (textS x).size ≤ 4 * x.length := by
  have := (rs_len (rs_textS h)).1
  rw [size_length] at this
  exact this
end Go.Proofs.YtjfbildaaobfpaaDoor

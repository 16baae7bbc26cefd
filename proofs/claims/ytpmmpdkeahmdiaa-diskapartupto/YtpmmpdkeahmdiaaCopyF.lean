/- disk.copyFresh: what is kept round by round. -/
import Derived.Shelf.SlicesE.Clone
import Derived.Ground.SlgnProg
import Derived.Test.YtpmmpdkeahmdiaaCrashAll
import Derived.Test.YtpmmpdkeahmdiaaWrAll
namespace Go.Proofs.Ytpmmpdkeahmdiaa
open Go.RowKit Go.Shelf
set_option maxRecDepth 100000
shelf_lay_g SlLaysE0.n41 Slgn 41 at Try 73 as cloneF
/-- A list of versions, copied. -/
theorem cloneF_any (x : FS) (w : World) (h : x.ok w) (hl : x.vs.length ≤ 1099511627776) :
    Calls Try.prog 73 #[fsV x] w fun e w' => ∃ x' : FS, e = .returned (fsV x') ∧ x'.vs = x.vs ∧ x'.ok w' ∧ w.heap.size ≤ x'.g ∧ Below w.heap.size w w' := by
  obtain ⟨i, hi, hz, hs, hb⟩ := info_parts info_ver
  have hsz : ∀ w, (Go.sizeOf 87).run Try.prog w = .ok 64 w := fun w => by simp [sizeOf, typeInfo, hi, hs, Result.andThen]
  obtain ⟨⟨cur, h1, h2, h3⟩, h4, h5, h6, h7⟩ := h
  have hfl := flat_len x.vs h6
  have hc : ∀ (j : Nat) u, (flat x.vs)[j]? = some u → w.cell? ⟨x.g, 0 + j, none⟩ = some u := fun j u hj => by
    have hjl := (List.getElem?_eq_some_iff.1 hj).1
    rw [← h3, List.getElem?_take, if_pos (by omega)] at hj
    rw [Nat.zero_add]
    simpa [World.cell?, h1] using hj
  have hone : ∀ u ∈ flat x.vs, u.oneCell' = true := fun u hu => by
    obtain ⟨v, _, hu⟩ := List.mem_flatMap.1 hu
    obtain ⟨z, _, rfl⟩ := List.mem_map.1 hu
    rfl
  have hcall : Calls Try.prog 73 #[.slice (some ⟨x.g, 0, none⟩) x.vs.length x.cap] w fun e w' => ∃ v', e = .returned v' ∧ w'.ownsRow w.heap.size 87 64 v' x.vs.length (flat x.vs) ∧ v' ≠ .slice none 0 0 ∧ Below w.heap.size w w' :=
    AnyE.slices_Clone cloneF i _ 64 64 hi hz hs hb (by simp [Value.cells]) (by decide) hsz x.g 0 x.vs.length x.cap (flat x.vs) w hfl (by omega) (by omega) hc hone
  refine hcall.mono ?_
  rintro e w' ⟨v', rfl, ⟨k1, ⟨e1, _⟩ | ⟨g, cap, c2, rfl, hg, hb2, k2, k3, k4, k5⟩⟩, hne, hbw⟩
  · exact absurd e1 hne
  · exact ⟨⟨g, cap, x.vs⟩, rfl, rfl, ⟨⟨c2, hb2, k4, k5⟩, k2, k3, h6, h7⟩, hg, hbw⟩
abbrev MF := List (Int × Nat × List (Int × FS))
/-- The copy so far. -/
structure CopyF (w : World) (q lb0 mb : Nat) (L0 : List (Int × Nat × List (Int × List Nat))) (wr : World) (M : MF) (f : Int → Int → Option (List (List Nat))) : Prop where
  held : Held wr ⟨lb0, mb, L0, M⟩
  nd : (q :: Sh.blocks ⟨lb0, mb, L0, M⟩).Nodup
  ql : q < w.heap.size
  get : ∀ a n, (fsGet M a n).map FS.vs = f a n
  new : ∀ b ∈ mb :: Sh.fblocks M, w.heap.size ≤ b
  below : Below w.heap.size w wr
theorem CopyF.one {w : World} {q lb0 mb : Nat} {L0 : List (Int × Nat × List (Int × List Nat))} {wr wr' : World} {M : MF} {f : Int → Int → Option (List (List Nat))} (h : CopyF w q lb0 mb L0 wr M f) {r : Nat} (ho : OneD r wr wr') (hr : w.heap.size ≤ r) (hr2 : r ∉ mb :: Sh.fblocks M) (hl : ∀ b ∈ lb0 :: Sh.lblocks L0, b < w.heap.size) : CopyF w q lb0 mb L0 wr' M f := by
  refine ⟨h.held.same fun b hb => ho.block b fun e => ?_, h.nd, h.ql, h.get, h.new, h.below.trans ⟨ho.os, ho.tape, ho.output, Nat.le_of_eq ho.size.symm, fun b hb => ho.block b (by omega)⟩⟩
  subst e
  simp only [Sh.blocks, List.mem_cons, List.mem_append] at hb
  rcases hb with hb | hb | hb | hb
  · have := hl b (hb ▸ .head _); omega
  · exact hr2 (hb ▸ .head _)
  · have := hl b (.tail _ hb); omega
  · exact hr2 (.tail _ hb)
theorem CopyF.grow {w : World} {q lb0 mb : Nat} {L0 : List (Int × Nat × List (Int × List Nat))} {wr wr' : World} {M : MF} {f : Int → Int → Option (List (List Nat))} (h : CopyF w q lb0 mb L0 wr M f) (hb : Below wr.heap.size wr wr') : CopyF w q lb0 mb L0 wr' M f :=
  ⟨h.held.same fun b hx => hb.block b (h.held.lt b hx), h.nd, h.ql, h.get, h.new, h.below.trans (hb.mono h.below.size)⟩
theorem CopyF.ext {w : World} {q lb0 mb : Nat} {L0 : List (Int × Nat × List (Int × List Nat))} {wr : World} {M : MF} {f g : Int → Int → Option (List (List Nat))} (h : CopyF w q lb0 mb L0 wr M f) (e : ∀ a n, f a n = g a n) : CopyF w q lb0 mb L0 wr M g :=
  ⟨h.held, h.nd, h.ql, fun a n => (h.get a n).trans (e a n), h.new, h.below⟩
/-- One list more: W2: it is copied; W3: it is put into the map. -/
theorem CopyF.put {w : World} {q lb0 mb : Nat} {L0 : List (Int × Nat × List (Int × List Nat))} {wr W2 W3 : World} {M : MF} {f : Int → Int → Option (List (List Nat))} {a n : Int} {x' : FS} (h : CopyF w q lb0 mb L0 wr M f) (hb2 : Below wr.heap.size wr W2) (hx : x'.ok W2) (hg : wr.heap.size ≤ x'.g) (hput : PutPost fsV a n x' mb M W2 W3) :
    ∃ M', CopyF w q lb0 mb L0 W3 M' (fun a' n' => if a' = a ∧ n' = n then some x'.vs else f a' n') ∧ (∀ b ∈ mb :: Sh.fblocks M', b ∈ mb :: Sh.fblocks M ∨ wr.heap.size ≤ b) ∧ (∀ k, k < wr.heap.size → k ∉ mb :: Sh.fblocks M → W3.heap[k]? = wr.heap[k]?) := by
  have hbs := h.below.size
  obtain ⟨nb, k1, k2, k3, k4, k5⟩ := held_write (p := q) (sh := ⟨lb0, mb, L0, M⟩) (x' := x') h.held h.nd (Nat.lt_of_lt_of_le h.ql hbs) hb2.size (fun k hk _ => hb2.block k hk) hb2.os hb2.tape hb2.output hx (.inr hg) hput
  have far : ∀ k, k < wr.heap.size → k ∉ mb :: Sh.fblocks M → W3.heap[k]? = wr.heap[k]? := fun k hk hn => by
    obtain ⟨nb', _, _, _, _, _, _, _, hfar⟩ := hput
    refine (hfar k (Nat.lt_of_lt_of_le hk hb2.size) (fun e => hn (e ▸ .head _)) fun y hy e => hn (.tail _ (e ▸ mem_fblocks (mem_keys_of_mget hy)))).trans (hb2.block k hk)
  have hnew : ∀ b ∈ mb :: Sh.fblocks (putM a n x' nb M), b ∈ mb :: Sh.fblocks M ∨ wr.heap.size ≤ b := fun b hb => by
    rcases List.mem_cons.1 hb with rfl | hb
    · exact .inl (.head _)
    · have hlt := k1.lt b (.tail _ (.tail _ (List.mem_append_right _ hb)))
      obtain ⟨R, r1, r2⟩ := fblocks_put a n x' nb M
      rw [r2.mem_iff] at hb
      rcases List.mem_append.1 hb with hb | hb
      · by_cases hm : mget a M = none
        · rw [if_pos hm] at hb
          rcases k3 b (.tail _ (.tail _ (.tail _ (List.mem_append_right _ (r2.mem_iff.2 (List.mem_append_left _ (by rw [if_pos hm]; exact hb))))))) with h1 | h1
          · by_cases hbl : wr.heap.size ≤ b
            · exact .inr hbl
            · -- nb is new
              have hnn := List.mem_singleton.1 hb
              exfalso
              have hF := (List.nodup_append.1 (List.nodup_cons.1 (List.nodup_cons.1 (List.nodup_cons.1 k2).2).2).2)
              obtain ⟨p1, p2⟩ := List.nodup_cons.1 k2
              obtain ⟨p3, p4⟩ := List.nodup_cons.1 p2
              obtain ⟨p5, p6⟩ := List.nodup_cons.1 p4
              have hbF : b ∈ Sh.fblocks (putM a n x' nb M) := r2.mem_iff.2 (List.mem_append_left _ (by rw [if_pos hm]; exact hb))
              simp only [Sh.blocks, List.mem_cons, List.mem_append] at h1
              rcases h1 with h1 | h1 | h1 | h1 | h1
              · exact p1 (h1 ▸ .tail _ (.tail _ (List.mem_append_right _ hbF)))
              · exact p3 (h1 ▸ .tail _ (List.mem_append_right _ hbF))
              · exact p5 (h1 ▸ List.mem_append_right _ hbF)
              · exact (List.nodup_append.1 p6).2.2 b h1 b hbF rfl
              · have h2 : b ∈ x'.g :: R := List.mem_cons_of_mem _ (by
                  have := r1.mem_iff.1 h1
                  unfold fsGet at this
                  rw [hm] at this
                  simpa using this)
                have := (r2.nodup_iff.1 (List.nodup_append.1 p6).2.1)
                rw [if_pos hm] at this
                exact (List.nodup_append.1 this).2.2 b hb b h2 rfl
          · exact .inr h1
        · rw [if_neg hm] at hb; cases hb
      · rcases List.mem_cons.1 hb with rfl | hb
        · exact .inr hg
        · exact .inl (.tail _ (r1.mem_iff.2 (List.mem_append_right _ hb)))
  refine ⟨_, ⟨k1, k2, h.ql, fun a' n' => ?_, fun b hb => ?_, ?_⟩, hnew, far⟩
  · rw [fsGet_put]
    split
    · rfl
    · exact h.get a' n'
  · rcases hnew b hb with hb | hb
    · exact h.new b hb
    · omega
  · refine ⟨k4.os.trans h.below.os, k4.tape.trans h.below.tape, k4.output.trans h.below.output, Nat.le_trans hbs k4.size, fun k hk => (far k (by omega) fun hm => ?_).trans (h.below.block k hk)⟩
    have := h.new k hm
    omega
end Go.Proofs.Ytpmmpdkeahmdiaa

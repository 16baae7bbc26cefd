/- The end of a write: from the new list of versions to the disk. -/
import Derived.Test.YtpmmpdkeahmdiaaWrite
namespace Go.Proofs.Ytpmmpdkeahmdiaa
open Go.RowKit
set_option maxRecDepth 100000

/-- The list of versions at a, n, nil if there is none. -/
def fsVs (sh : Sh) (a n : Int) : List (List Nat) := fget sh a n
theorem fs_row {W : World} {sh : Sh} (hh : Held W sh) (a n : Int) : W.ownsRow 0 87 64 (fsAt sh a n) (fget sh a n).length (flat (fget sh a n)) ∧ (∀ v ∈ fget sh a n, v.length = 64) ∧ (fsAt sh a n).ownBlock = (fsGet sh.F a n).map FS.g := by
  unfold fsAt fget fsGet
  cases hx : (mget a sh.F).bind fun x => mget n x.2 with
  | none => exact ⟨World.ownsRow_nil _ _ _ _, fun v hv => (by cases hv), rfl⟩
  | some x =>
    obtain ⟨y, hy, hz⟩ := Option.bind_eq_some_iff.1 hx
    have hok := (hh.hfi _ (mem_keys_of_mget hy)).2.1 _ (mem_keys_of_mget hz)
    exact ⟨hok.row, hok.2.2.2.1, rfl⟩
theorem flat_snoc (vs : List (List Nat)) (v : List Nat) : flat (vs ++ [v]) = flat vs ++ v.map bv := by simp [flat]
theorem fs_of_row {W : World} {v' : Value} {vs : List (List Nat)} {ver : List Nat} (h : W.ownsRow 0 87 64 v' (vs.length + 1) (flat vs ++ ver.map bv)) (hne : v' ≠ .slice none 0 0) (h1 : ∀ v ∈ vs, v.length = 64) (h2 : ver.length = 64) :
    ∃ x' : FS, v' = fsV x' ∧ x'.vs = vs ++ [ver] ∧ x'.ok W := by
  obtain ⟨hl, ⟨e, _⟩ | ⟨g, cap, cur, rfl, _, hb, k1, k2, k3, k4⟩⟩ := h
  · exact absurd e hne
  · refine ⟨⟨g, cap, vs ++ [ver]⟩, by simp [fsV], rfl, ⟨cur, hb, k3, ?_⟩, by simpa using k1, k2, ?_, by simp⟩
    · rw [flat_snoc, ← k4]; simp
    · intro v hv
      rcases List.mem_append.1 hv with hv | hv
      · exact h1 v hv
      · rw [List.mem_singleton.1 hv]; exact h2
theorem two_of_held {p : Nat} {sh : Sh} {W W2 : World} {a n : Int} (hh : Held W sh) (hn : (p :: sh.blocks).Nodup) (h2 : ∀ k, k < W.heap.size → (∀ y, fsGet sh.F a n = some y → k ≠ y.g) → W2.heap[k]? = W.heap[k]?) : Two fsV W2 sh.fb sh.F := by
  simp only [Sh.blocks, List.nodup_cons, List.mem_cons, List.mem_append, not_or, List.nodup_append] at hn
  obtain ⟨_, _, ⟨f1, f2⟩, nl, nf, nlf⟩ := hn
  obtain ⟨u1, u2, u3⟩ := flat_nodup nf
  have hy : ∀ y, fsGet sh.F a n = some y → ∃ q ∈ sh.F, (n, y) ∈ q.2.2 := fun y hy => by
    obtain ⟨z, hz, hw⟩ := Option.bind_eq_some_iff.1 hy
    exact ⟨_, mem_keys_of_mget hz, mem_keys_of_mget hw⟩
  refine ⟨hh.hf.same (h2 _ hh.hf.lt fun y h e => ?_), fun q hq => (hh.hfi q hq).1.same (h2 _ (hh.hfi q hq).1.lt fun y h e => ?_), List.nodup_cons.2 ⟨fun hm => ?_, ?_⟩⟩
  · obtain ⟨q, hq, hs⟩ := hy y h
    exact f2 (e ▸ mem_fblocks2 hq hs)
  · obtain ⟨q1, hq1, hs1⟩ := hy y h
    exact u2 q hq q1 hq1 _ hs1 e
  · obtain ⟨q, hq, e⟩ := List.mem_map.1 hm
    exact f2 (e ▸ mem_fblocks hq)
  · have : ∀ F : List (Int × Nat × List (Int × FS)), (Sh.fblocks F).Nodup → (F.map (·.2.1)).Nodup := by
      intro F
      induction F with
      | nil => intro _; simp
      | cons x r ih =>
        intro h
        have h' : ((x.2.1 :: x.2.2.map (·.2.g)) ++ Sh.fblocks r).Nodup := h
        rw [List.nodup_append] at h'
        refine List.nodup_cons.2 ⟨fun hm => ?_, ih h'.2.1⟩
        obtain ⟨q, hq, e⟩ := List.mem_map.1 hm
        exact h'.2.2 _ (.head _) _ (mem_fblocks hq) e.symm
    exact this _ nf
/-- A disk's numbers behind a write. -/
theorem disk_write {N : Nat} {p : Nat} {sh : Sh} {W W2 W3 : World} {d1 : DS} {a n : Int} {xs : List Nat} {x' : FS} (hh : Held W sh) (hrep : Rep sh d1.secs) (hn : (p :: sh.blocks).Nodup)
    (hp : W.heap[p]? = some (dC d1.room ((wr a n (pad xs) d1.secs).length : Int) d1.steps d1.dead d1.armed d1.ahead sh.lb sh.fb))
    (b1 : 0 ≤ d1.room) (b2 : d1.room ≤ 9223372036854775807) (b3 : 0 ≤ d1.steps) (b4 : d1.steps ≤ (N + 1 : Nat)) (b5 : d1.secs.length ≤ N) (b6 : ((wr a n (pad xs) d1.secs).length : Int) ≤ d1.room) (b7 : ∀ s ∈ d1.secs, s.fresh.length ≤ N) (b8 : -9223372036854775808 ≤ d1.ahead) (b9 : d1.ahead ≤ 9223372036854775807) (b10 : d1.armed = true → 0 ≤ d1.ahead)
    (hs2 : W.heap.size ≤ W2.heap.size) (h2 : ∀ k, k < W.heap.size → (∀ y, fsGet sh.F a n = some y → k ≠ y.g) → W2.heap[k]? = W.heap[k]?) (hos : W2.os = W.os) (htp : W2.tape = W.tape) (hou : W2.output = W.output)
    (hx : x'.ok W2) (hxv : x'.vs = fget sh a n ++ [pad xs]) (hg : (∃ y, fsGet sh.F a n = some y ∧ x'.g = y.g) ∨ W.heap.size ≤ x'.g) (hput : PutPost fsV a n x' sh.fb sh.F W2 W3) :
    ∃ fp', DiskAt (N + 1) W3 p { d1 with secs := wr a n (pad xs) d1.secs } fp' ∧ Only (p :: sh.blocks) W W3 ∧ ∀ b ∈ fp', b ∈ p :: sh.blocks ∨ W.heap.size ≤ b := by
  obtain ⟨nb, k1, k2, k3, k4, k5⟩ := held_write hh hn (Array.getElem?_eq_some_iff.1 hp).1 hs2 h2 hos htp hou hx hg hput
  refine ⟨_, ⟨{ sh with F := putM a n x' nb sh.F }, k5.trans hp, k1, rep_write hrep a n (pad xs) x' nb hxv, rfl, k2, b1, b2, b3, b4, ?_, b6, wr_fresh_le b7, b8, b9, b10⟩, k4, k3⟩
  show (wr a n (pad xs) d1.secs).length ≤ N + 1
  rw [wr_len hrep.sorted]
  split <;> omega
/-- What an append to the list of versions leaves as it was. -/
theorem app_facts {p vb : Nat} {sh : Sh} {W W2 : World} {a n : Int} {o : Obj} {x' : FS} (hh : Held W sh) (hn : (p :: sh.blocks).Nodup) (hp : p < W.heap.size) (hvb : vb < W.heap.size) (hvn : vb ∉ p :: sh.blocks)
    (hgrow : (W.drew.alloc o).grownBy W2 (fsAt sh a n).ownBlock) (hloc : (fsV x').ownBlock = (fsAt sh a n).ownBlock ∨ (fsV x').ownBlock = some (W.drew.alloc o).heap.size) :
    W.heap.size ≤ W2.heap.size ∧ (∀ k, k < W.heap.size → (∀ y, fsGet sh.F a n = some y → k ≠ y.g) → W2.heap[k]? = W.heap[k]?) ∧ (W2.os = W.os ∧ W2.tape = W.tape ∧ W2.output = W.output) ∧ ((∃ y, fsGet sh.F a n = some y ∧ x'.g = y.g) ∨ W.heap.size ≤ x'.g) ∧ W2.heap[p]? = W.heap[p]? ∧ W2.heap[vb]? = W.heap[vb]? := by
  have hob := (fs_row hh a n).2.2
  have hsz : (W.drew.alloc o).heap.size = W.heap.size + 1 := by simp
  have h2 : ∀ k, k < W.heap.size → (∀ y, fsGet sh.F a n = some y → k ≠ y.g) → W2.heap[k]? = W.heap[k]? := fun k hk hne => by
    refine (hgrow.block k (by omega) fun e => ?_).trans (alloc_old W.drew o hk)
    rw [hob] at e
    cases hy : fsGet sh.F a n with
    | none => rw [hy] at e; cases e
    | some y => rw [hy] at e; exact hne y hy (Option.some.inj e)
  have hyb : ∀ y, fsGet sh.F a n = some y → y.g ∈ sh.blocks := fun y h => by
    obtain ⟨z, hz, hw⟩ := Option.bind_eq_some_iff.1 h
    exact .tail _ (.tail _ (List.mem_append_right _ (mem_fblocks2 (mem_keys_of_mget hz) (mem_keys_of_mget hw))))
  refine ⟨by have := hgrow.size; omega, h2, ⟨hgrow.os, hgrow.tape, hgrow.output⟩, ?_, h2 p hp fun y hy e => ?_, h2 vb hvb fun y hy e => ?_⟩
  · have e1 : (fsV x').ownBlock = some x'.g := rfl
    rw [e1, hob] at hloc
    rcases hloc with h | h
    · cases hy : fsGet sh.F a n with
      | none => rw [hy] at h; cases h
      | some y => rw [hy] at h; exact .inl ⟨y, rfl, Option.some.inj h⟩
    · right
      have := Option.some.inj h
      omega
  · exact (List.nodup_cons.1 hn).1 (e ▸ hyb y hy)
  · exact hvn (.tail _ (e ▸ hyb y hy))
theorem put_far {sh : Sh} {W2 W3 : World} {a n : Int} {x' : FS} (hput : PutPost fsV a n x' sh.fb sh.F W2 W3) {k : Nat} (hk : k < W2.heap.size) (hn : k ∉ sh.blocks) : W3.heap[k]? = W2.heap[k]? := by
  obtain ⟨nb, _, _, _, _, _, _, _, h⟩ := hput
  refine h k hk (fun e => hn (e ▸ .tail _ (.head _))) fun x hx e => hn (e ▸ .tail _ (.tail _ (List.mem_append_right _ (mem_fblocks (mem_keys_of_mget hx)))))
end Go.Proofs.Ytpmmpdkeahmdiaa

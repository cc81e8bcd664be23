/-
  Chapter 4 as lists: what was put is told again, and all else stays.
  Made from the template ObjsD.
-/
import Derived.Test.YtdogibjgogcdkabObjS2
import Derived.Test.YtdogibjgogcdkabPutS2
import Derived.Test.YtdogibjgogcdkabHeadsAll
namespace Go.Proofs.Ytdogibjgogcdkab.walks
open Go.RowKit rows heads words
set_option maxRecDepth 100000

theorem obj_size {xs : List Int} {i : Int} (h : objOk xs i = true) : chunkAt xs i = sz (uS (oN xs i)) := by
  have en : oN xs i = xs.getD i.toNat 0 := by unfold oN; rw [if_pos h]
  rw [en]
  unfold objOk at h
  rw [Bool.and_eq_true, decide_eq_true_eq, decide_eq_true_eq] at h
  obtain ⟨h1, h2⟩ := h
  unfold chunkAt at h1 ⊢
  split at h1
  · rename_i d
    rw [if_pos d]
    exact (chunk_obj h1 h2).1
  · exact absurd rfl h1

theorem put_getD {xs ys : List Int} {k n : Nat} {hd : Int} (h : k + n ≤ xs.length) (hn : ys.length < n) (j : Nat) (hj : j < k ∨ k + n ≤ j) : (put xs k hd ys ys.length n).getD j 0 = xs.getD j 0 := by
  have : (put xs k hd ys ys.length n)[j]? = xs[j]? := by
    simp only [put, List.getElem?_append, List.length_take, List.getElem?_take, List.getElem?_cons, List.length_cons, List.getElem?_replicate, List.length_append, List.length_replicate, List.getElem?_drop]
    grind
  rw [List.getD_eq_getElem?_getD, List.getD_eq_getElem?_getD, this]
theorem put_head {xs ys : List Int} {k n : Nat} {hd : Int} (h : k + n ≤ xs.length) (hn : ys.length < n) : (put xs k hd ys ys.length n).getD k 0 = hd := by
  have : (put xs k hd ys ys.length n)[k]? = some hd := by
    simp only [put, List.getElem?_append, List.length_take, List.getElem?_take, List.getElem?_cons, List.length_cons, List.getElem?_replicate, List.length_append, List.length_replicate, List.getElem?_drop]
    grind
  rw [List.getD_eq_getElem?_getD, this]; rfl
theorem put_words {xs ys : List Int} {k n : Nat} {hd : Int} (h : k + n ≤ xs.length) (hn : ys.length < n) : ((put xs k hd ys ys.length n).drop (k + 1)).take ys.length = ys := by
  apply List.ext_getElem?
  intro i
  simp only [put, List.getElem?_append, List.length_take, List.getElem?_take, List.getElem?_cons, List.length_cons, List.getElem?_replicate, List.length_append, List.length_replicate, List.getElem?_drop]
  grind

/-- Where it was put: the row is as long as it was, the object is told, and all else is as it was. -/
theorem put_told {xs ys : List Int} {i s f c g : Int} {p m : Bool} (h : putOk xs i s f c g p m ys = true) :
    ∃ k : Nat, i = k ∧ k < xs.length ∧ rowOk xs = true ∧ (putRow xs i s f c g p m ys).length = xs.length ∧ objOk (putRow xs i s f c g p m ys) i = true ∧ hw (oN (putRow xs i s f c g p m ys) i) = hv s f c g p m ∧ objWords (putRow xs i s f c g p m ys) i = ys ∧ (k : Int) + sz s ≤ xs.length ∧ 2 ≤ sz s ∧
      ∀ j : Nat, (j : Int) < k ∨ (k : Int) + sz s ≤ j → (putRow xs i s f c g p m ys).getD j 0 = xs.getD j 0 := by
  have er : putRow xs i s f c g p m ys = put xs i.toNat (pk s f c g p m) ys ys.length (sz s).toNat := by unfold putRow; rw [if_pos h]
  simp only [putOk, Bool.and_eq_true, decide_eq_true_eq, Bool.not_eq_true'] at h
  obtain ⟨⟨d1, ⟨⟨⟨⟨e1, e2⟩, e3⟩, e4⟩, e5⟩, e6⟩, e7⟩ := h
  obtain ⟨s0, s1, f0, _⟩ := hok_true e1
  have hz := sz_bounds s0 s1
  have ha := atOk_true e5
  obtain ⟨k, rfl⟩ := Int.eq_ofNat_of_zero_le ha.1
  rw [Int.toNat_natCast] at er
  rw [er]
  have hkn : k + (sz s).toNat ≤ xs.length := by omega
  have hyn : ys.length < (sz s).toNat := by omega
  have LEN := put_length (hd := pk s f c g p m) hkn (Nat.le_refl _) hyn
  have HD := put_head (hd := pk s f c g p m) hkn hyn
  have WD := put_words (hd := pk s f c g p m) hkn hyn
  have OUT := put_getD (hd := pk s f c g p m) hkn hyn
  generalize put xs k (pk s f c g p m) ys ys.length (sz s).toNat = zs at *
  obtain ⟨u0, u1, u2, u3, u4, u5, u6⟩ := heads.told e1
  have hrow := rowOk_true d1
  have ho : okAt zs k = true := by simp only [okAt, rowOk, atOk, Bool.and_eq_true, decide_eq_true_eq]; omega
  have hc : chunkAt zs k = sz s := by
    unfold chunkAt
    rw [if_pos ho, Int.toNat_natCast]
    unfold chunk
    rw [HD, u0, u6, u1, u2, e3, if_pos (by simp), if_neg (by omega), if_pos ⟨by omega, fun h => by omega⟩]
  have hO : objOk zs k = true := by
    unfold objOk
    rw [Int.toNat_natCast, HD, u2, hc]
    simp only [Bool.and_eq_true, decide_eq_true_eq]
    omega
  have hN : oN zs k = pk s f c g p m := by unfold oN; rw [if_pos hO, Int.toNat_natCast, HD]
  refine ⟨k, rfl, by omega, d1, LEN, hO, ?_, ?_, by omega, by omega, fun j hj => OUT j (by omega)⟩
  · rw [hN]
    simp only [hw, u1, u2, u3, u4, u5, u6]
  · unfold objWords
    rw [if_pos hO, Int.toNat_natCast, HD]
    have : (cnt (pk s f c g p m)).toNat = ys.length := by
      unfold cnt
      rw [u2, if_neg (by omega), u1]
      omega
    rw [this, WD]
end Go.Proofs.Ytdogibjgogcdkab.walks

/- Shards as data: valid ones (plain lemmas; no condition). -/
import Derived.Test.YtmbabbapcjphgaaKE
namespace Go.Proofs.Ytmbabbapcjphgaa
open Go.RowKit

def kedgeB (lo hi : Int) (e : KE) : Bool := decide (0 ≤ e.f ∧ e.f < 150 ∧ lo ≤ e.t ∧ e.t < hi ∧ 0 ≤ e.w ∧ e.w ≤ 1000 ∧ 0 ≤ e.i ∧ e.i < 400 ∧ 0 ≤ e.v ∧ e.v ≤ 281474976710655)
def afterB (p q : Int) (e : KE) : Bool := decide (p < e.f ∨ (p = e.f ∧ q < e.i))
def runK (lo hi : Int) : Int → Int → List KE → Bool
  | _, _, [] => true
  | p, q, e :: r => kedgeB lo hi e && afterB p q e && runK lo hi e.f e.i r
def shardB (lo hi : Int) (es : List KE) : Bool := decide (0 ≤ lo ∧ lo < hi ∧ hi ≤ 150 ∧ es.length ≤ 400) && runK lo hi (-1) 0 es

theorem kedgeB_iff {lo hi : Int} {e : KE} (h : kedgeB lo hi e = true) : 0 ≤ e.f ∧ e.f < 150 ∧ lo ≤ e.t ∧ e.t < hi ∧ 0 ≤ e.w ∧ e.w ≤ 1000 ∧ 0 ≤ e.i ∧ e.i < 400 ∧ 0 ≤ e.v ∧ e.v ≤ 281474976710655 := of_decide_eq_true h
theorem afterB_iff {p q : Int} {e : KE} (h : afterB p q e = true) : p < e.f ∨ (p = e.f ∧ q < e.i) := of_decide_eq_true h
theorem shardB_iff {lo hi : Int} {es : List KE} (h : shardB lo hi es = true) : 0 ≤ lo ∧ lo < hi ∧ hi ≤ 150 ∧ es.length ≤ 400 ∧ runK lo hi (-1) 0 es = true := by
  unfold shardB at h
  rw [Bool.and_eq_true, decide_eq_true_iff] at h
  exact ⟨h.1.1, h.1.2.1, h.1.2.2.1, h.1.2.2.2, h.2⟩
theorem shardB_yes {lo hi : Int} {es : List KE} (h0 : 0 ≤ lo) (h1 : lo < hi) (h2 : hi ≤ 150) (h3 : es.length ≤ 400) : shardB lo hi es = runK lo hi (-1) 0 es := by
  simp [shardB, h0, h1, h2, h3]
theorem runK_drop {lo hi p q : Int} {es : List KE} {k : Nat} {e : KE} (he : es[k]? = some e) (h : runK lo hi p q (es.drop k) = runK lo hi (-1) 0 es) : (kedgeB lo hi e && afterB p q e && runK lo hi e.f e.i (es.drop (k + 1))) = runK lo hi (-1) 0 es := by
  rw [← h, g_drop es k e he, runK]
theorem runK_each {lo hi : Int} : ∀ {es : List KE} {p q : Int}, runK lo hi p q es = true → ∀ e ∈ es, kedgeB lo hi e = true
  | [], _, _, _, e, he => by cases he
  | a :: r, p, q, h, e, he => by
    rw [runK, Bool.and_eq_true, Bool.and_eq_true] at h
    rcases List.mem_cons.1 he with rfl | he
    · exact h.1.1
    · exact runK_each h.2 e he
/-- The edges of a valid shard do not fall in From. -/
theorem runK_from {lo hi : Int} : ∀ {es : List KE} {p q : Int}, runK lo hi p q es = true → (∀ e ∈ es, p ≤ e.f) ∧ es.Pairwise (fun a b => a.f ≤ b.f)
  | [], _, _, _ => ⟨by simp, List.Pairwise.nil⟩
  | a :: r, p, q, h => by
    rw [runK, Bool.and_eq_true, Bool.and_eq_true] at h
    obtain ⟨h1, h2⟩ := runK_from h.2
    have h3 := afterB_iff h.1.2
    refine ⟨fun e he => ?_, List.pairwise_cons.2 ⟨h1, h2⟩⟩
    rcases List.mem_cons.1 he with rfl | he
    · omega
    · have := h1 e he; omega
theorem kedgeB_parts {lo hi : Int} {e : KE} (h : kedgeB lo hi e = false) : e.f < 0 ∨ (0 ≤ e.f ∧ 150 ≤ e.f) ∨ (0 ≤ e.f ∧ e.f < 150 ∧ e.t < lo) ∨ (0 ≤ e.f ∧ e.f < 150 ∧ lo ≤ e.t ∧ hi ≤ e.t) ∨ (0 ≤ e.f ∧ e.f < 150 ∧ lo ≤ e.t ∧ e.t < hi ∧ e.w < 0) ∨ (0 ≤ e.f ∧ e.f < 150 ∧ lo ≤ e.t ∧ e.t < hi ∧ 0 ≤ e.w ∧ 1000 < e.w) ∨
    (0 ≤ e.f ∧ e.f < 150 ∧ lo ≤ e.t ∧ e.t < hi ∧ 0 ≤ e.w ∧ e.w ≤ 1000 ∧ e.i < 0) ∨ (0 ≤ e.f ∧ e.f < 150 ∧ lo ≤ e.t ∧ e.t < hi ∧ 0 ≤ e.w ∧ e.w ≤ 1000 ∧ 0 ≤ e.i ∧ 400 ≤ e.i) ∨ (0 ≤ e.f ∧ e.f < 150 ∧ lo ≤ e.t ∧ e.t < hi ∧ 0 ≤ e.w ∧ e.w ≤ 1000 ∧ 0 ≤ e.i ∧ e.i < 400 ∧ ¬ (0 ≤ e.v ∧ e.v ≤ 281474976710655)) := by
  have h := of_decide_eq_false h
  rcases Int.lt_or_le e.f 0 with h1 | h1
  · exact .inl h1
  refine .inr ?_
  rcases Int.lt_or_le e.f 150 with h2 | h2
  case inr => exact .inl ⟨h1, h2⟩
  refine .inr ?_
  rcases Int.lt_or_le e.t lo with h3 | h3
  · exact .inl ⟨h1, h2, h3⟩
  refine .inr ?_
  rcases Int.lt_or_le e.t hi with h4 | h4
  case inr => exact .inl ⟨h1, h2, h3, h4⟩
  refine .inr ?_
  rcases Int.lt_or_le e.w 0 with h5 | h5
  · exact .inl ⟨h1, h2, h3, h4, h5⟩
  refine .inr ?_
  rcases Int.lt_or_le 1000 e.w with h6 | h6
  · exact .inl ⟨h1, h2, h3, h4, h5, h6⟩
  refine .inr ?_
  rcases Int.lt_or_le e.i 0 with h7 | h7
  · exact .inl ⟨h1, h2, h3, h4, h5, h6, h7⟩
  refine .inr ?_
  rcases Int.lt_or_le e.i 400 with h8 | h8
  case inr => exact .inl ⟨h1, h2, h3, h4, h5, h6, h7, h8⟩
  refine .inr ?_
  exact ⟨h1, h2, h3, h4, h5, h6, h7, h8, fun h9 => h ⟨h1, h2, h3, h4, h5, h6, h7, h8, h9⟩⟩
theorem prev_next {es : List KE} {k : Nat} {e : KE} (he : es[k]? = some e) : ∀ (j : Nat) (x : KE), k + 1 = j + 1 → es[j]? = some x → e.f = x.f ∧ e.i = x.i := fun j x hj hx => by
  obtain rfl : k = j := by omega
  rw [he] at hx
  injection hx with hx
  subst hx
  exact ⟨rfl, rfl⟩
end Go.Proofs.Ytmbabbapcjphgaa

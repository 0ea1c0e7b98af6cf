/- Words for slices of bytes (plain lemmas over the model; no condition): 'Rd w A n xs': the slice at A of length n reads in w as the bytes xs; what the call itself owns ('ownsRow') reads so; a reading is kept where nothing old is written. -/
import Derived.WalkKit
import Derived.WalkSpells
import Derived.Below
import Derived.Laws.OwnMore
import Derived.Deep.AppendLies
import Derived.Deep.Draws
import Derived.Laws.Rows
import Derived.Lib.Hide
import Derived.OpenShut
namespace Go.Proofs.Ytpgnappddddlpaa
open Go.RowKit

def vb (xs : List Nat) : List Value := xs.map fun n : Nat => .int .u8 (n : Int)
theorem vb_length (xs : List Nat) : (vb xs).length = xs.length := by simp [vb]
theorem vb_append (xs ys : List Nat) : vb (xs ++ ys) = vb xs ++ vb ys := by simp [vb]
theorem vb_one (x : Nat) : vb [x] = [.int .u8 (x : Int)] := rfl
theorem vb_get (xs : List Nat) (j : Nat) : (vb xs)[j]? = (xs[j]?).map fun n : Nat => .int .u8 (n : Int) := by simp [vb]
theorem vb_oneCell (xs : List Nat) : ∀ u ∈ vb xs, u.oneCell' = true := by
  intro u hu
  simp only [vb, List.mem_map] at hu
  obtain ⟨n, _, rfl⟩ := hu
  rfl

theorem grownBy_trans {a b c : World} {row : Option Nat} (h : a.grownBy b row) (k : b.grownBy c row) : a.grownBy c row :=
  ⟨k.os.trans h.os, k.tape.trans h.tape, k.output.trans h.output, Nat.le_trans h.size k.size, fun i hi hn => (k.block i (Nat.lt_of_lt_of_le hi h.size) hn).trans (h.block i hi hn)⟩
theorem grownBy_drewN {a w : World} {row : Option Nat} (h : a.grownBy w row) (n : Nat) : a.grownBy (w.drewN n) row := ⟨h.os, h.tape, h.output, h.size, h.block⟩
theorem below_drewN {B : Nat} {a w : World} (h : Below B a w) (n : Nat) : Below B a (w.drewN n) := ⟨h.os, h.tape, h.output, h.size, h.block⟩

/-- The slice value '.slice A n c' reads in w as the bytes xs. -/
structure Rd (w : World) (A : Option Addr) (n : Nat) (xs : List Nat) : Prop where
  len : xs.length = n
  small : ∀ x ∈ xs, x < 256
  lies : 0 < n → ∃ b off, A = some ⟨b, off, none⟩ ∧ b < w.heap.size ∧ ∀ (j : Nat) (x : Nat), xs[j]? = some x → w.cell? ⟨b, off + j, none⟩ = some (.int .u8 (x : Int))

section
variable {w w' : World} {A : Option Addr} {n : Nat} {xs : List Nat}
theorem Rd.at_ {k : Nat} (h : Rd w A n xs) (hk : k < n) : ∃ (b off x : Nat), A = some ⟨b, off, none⟩ ∧ b < w.heap.size ∧ x < 256 ∧ Hid (xs[k]? = some x) ∧ w.cell? ⟨b, off + k, none⟩ = some (.int .u8 (x : Int)) := by
  obtain ⟨b, off, rfl, hb, hc⟩ := h.lies (by omega)
  have hl : k < xs.length := by have := h.len; omega
  exact ⟨b, off, xs[k], rfl, hb, h.small _ (List.getElem_mem hl), List.getElem?_eq_getElem hl, hc k _ (List.getElem?_eq_getElem hl)⟩
theorem Rd.keep (h : Rd w A n xs) (hs : w.heap.size ≤ w'.heap.size) (hk : ∀ p : Addr, p.block < w.heap.size → w'.cell? p = w.cell? p) : Rd w' A n xs :=
  ⟨h.len, h.small, fun hn => by
    obtain ⟨b, off, e, hb, hc⟩ := h.lies hn
    exact ⟨b, off, e, by omega, fun j u hu => (hk _ hb).trans (hc j u hu)⟩⟩
theorem Rd.below (h : Rd w A n xs) (hb : Below w.heap.size w w') : Rd w' A n xs := h.keep hb.size fun _ hp => hb.cell hp
theorem Rd.drewN (h : Rd w A n xs) (k : Nat) : Rd (w.drewN k) A n xs := ⟨h.len, h.small, h.lies⟩
theorem Rd.drew (h : Rd w A n xs) : Rd w.drew A n xs := ⟨h.len, h.small, h.lies⟩
theorem Rd.alloc (h : Rd w A n xs) (o : Obj) : Rd (w.alloc o) A n xs := h.keep (by simp) fun p hp => World.cell?_alloc_lt w o p hp
theorem Rd.nil : Rd w A 0 [] := ⟨rfl, by simp, fun h => absurd h (by omega)⟩
theorem Rd.other {row : Option Nat} (h : Rd w A n xs) (hg : w.grownBy w' row) (hr : ∀ b off sp, A = some ⟨b, off, sp⟩ → some b ≠ row) : Rd w' A n xs :=
  ⟨h.len, h.small, fun hn => by
    obtain ⟨b, off, e, hb, hc⟩ := h.lies hn
    have := hg.size
    exact ⟨b, off, e, by omega, fun j u hu => (World.cell?_of_block (hg.block b hb (hr _ _ _ e))).trans (hc j u hu)⟩⟩
/-- What the call owns reads as its bytes. -/
theorem Rd.of_own {base e c : Nat} (h : w.ownsRow base e 1 (.slice A n c) n (vb xs)) (hs : ∀ x ∈ xs, x < 256) : Rd w A n xs := by
  have hl : xs.length = n := by have := h.1; rw [vb_length] at this; omega
  refine ⟨hl, hs, fun hn => ?_⟩
  obtain ⟨g, cap, hv, _, hlt⟩ := h.form hn
  have hA : A = some ⟨g, 0, none⟩ := by injection hv
  subst hA
  refine ⟨g, 0, rfl, hlt, fun j u hu => ?_⟩
  have := h.cells (g := g) rfl j (.int .u8 (u : Int)) (by rw [vb_get, hu]; rfl)
  have hx : ((⟨g, 0, none⟩ : Addr).add j) = ⟨g, 0 + j, none⟩ := by unfold Addr.add; split <;> simp_all
  rw [hx] at this
  exact this
end

theorem grownBy_of_below {w w' : World} (h : Below w.heap.size w w') (row : Option Nat) : w.grownBy w' row := ⟨h.os, h.tape, h.output, h.size, fun i hi _ => h.block i hi⟩
/-- What is owned stays owned where nothing old is written. -/
theorem own_below {w w' : World} {base e size n : Nat} {v : Value} {xs : List Value} (h : w.ownsRow base e size v n xs) (hb : Below w.heap.size w w') : w'.ownsRow base e size v n xs :=
  h.kept (grownBy_of_below hb none) (by cases v.ownBlock <;> simp)
theorem own_drewN {w : World} {base e size n : Nat} {v : Value} {xs : List Value} (h : w.ownsRow base e size v n xs) (k : Nat) : (w.drewN k).ownsRow base e size v n xs := h
theorem own_cap {w : World} {base e n c : Nat} {A : Option Addr} {xs : List Value} (h : w.ownsRow base e 1 (.slice A n c) n xs) : n ≤ c := by
  rcases h.2 with ⟨h', h0⟩ | ⟨g, cap, _, h', _, _, hc, _⟩
  · omega
  · injection h' with _ _ h3; omega
/-- A row that lay before another was made is not that other one. -/
theorem ne_of_before {w1 w2 : World} {b1 b2 e1 e2 n m c d s1 s2 : Nat} {A B : Option Addr} {xs ys : List Value} (h1 : w1.ownsRow b1 e1 s1 (.slice A n c) n xs) (h2 : w2.ownsRow b2 e2 s2 (.slice B m d) m ys) (hle : w1.heap.size ≤ b2) :
    ∀ b off sp, A = some ⟨b, off, sp⟩ → some b ≠ (Value.slice B m d).ownBlock := by
  rintro b off sp rfl he
  have := (h1.lt b rfl).2
  have := (h2.lt b he.symm).1
  omega
theorem ne_of_after {w1 w2 : World} {b1 b2 e1 e2 n m c d s1 s2 : Nat} {A B : Option Addr} {xs ys : List Value} (h1 : w1.ownsRow b1 e1 s1 (.slice A n c) n xs) (h2 : w2.ownsRow b2 e2 s2 (.slice B m d) m ys) (hle : w2.heap.size ≤ b1) :
    ∀ b off sp, A = some ⟨b, off, sp⟩ → some b ≠ (Value.slice B m d).ownBlock := by
  rintro b off sp rfl he
  have := (h1.lt b rfl).1
  have := (h2.lt b he.symm).2
  omega
/-- The same for what is owned. -/
theorem own_other {w w' : World} {base e size n c : Nat} {A : Option Addr} {xs : List Value} {row : Option Nat} (h : w.ownsRow base e size (.slice A n c) n xs) (hg : w.grownBy w' row) (hr : ∀ b off sp, A = some ⟨b, off, sp⟩ → some b ≠ row) : w'.ownsRow base e size (.slice A n c) n xs := by
  refine h.kept hg ?_
  rcases A with _ | ⟨b, off, sp⟩
  · exact .inl rfl
  · exact .inr (hr b off sp rfl)
theorem below_mark {w wr w' : World} {base e size n c : Nat} {A : Option Addr} {xs : List Value} (hb : Below w.heap.size w wr) (hg : wr.grownBy w' (Value.slice A n c).ownBlock) (ho : wr.ownsRow base e size (.slice A n c) n xs) (hle : w.heap.size ≤ base) : Below w.heap.size w w' :=
  hb.grown hg hb.size (fun k hk => Nat.le_trans hle (ho.lt k hk).1)

/-- What a slice of bytes that came in is told as (the shell's word), read as bytes. -/
def IsRow (k : IntKind) (w : World) (a : Option Addr) (len cap : Nat) (zs : List Int) : Prop :=
  (a = none ∧ len = 0 ∧ cap = 0 ∧ zs = []) ∨
  ∃ x, a = some x ∧ len ≤ cap ∧ cap ≤ maxLen ∧ zs.length = cap ∧ (∀ i, i < zs.length → w.cell? (x.add i) = some (.int k (zs.getD i 0))) ∧ ∀ n ∈ zs, (Lit.int k n).wf = true

theorem IsRow.rd {w : World} {a : Option Addr} {len cap : Nat} {zs : List Int} (h : IsRow .u8 w a len cap zs) : len ≤ cap ∧ cap ≤ maxLen ∧ ∃ xs, Rd w a len xs := by
  rcases h with ⟨rfl, rfl, rfl, rfl⟩ | ⟨x, rfl, hl, hm, hz, hcell, hwz⟩
  · exact ⟨Nat.le_refl _, by unfold maxLen; omega, [], Rd.nil⟩
  · refine ⟨hl, hm, (zs.take len).map Int.toNat, ?_, ?_, ?_⟩
    · simp; omega
    · intro y hy
      simp only [List.mem_map] at hy
      obtain ⟨z, hzm, rfl⟩ := hy
      have := hwz z (List.mem_of_mem_take hzm)
      have := bounds_u8 this
      omega
    · intro hn
      obtain ⟨b, off, spot⟩ := x
      have hc := hcell 0 (by omega)
      have hspot : spot = none := by simpa [Addr.add] using World.cell?_spot hc
      subst hspot
      refine ⟨b, off, rfl, World.block_lt_of_cell? w _ hc, fun j u hu => ?_⟩
      have hj : j < len := by have := (List.getElem?_eq_some_iff.1 hu).1; simp at this; omega
      have h1 := hcell j (by omega)
      have hx : ((⟨b, off, none⟩ : Addr).add j) = ⟨b, off + j, none⟩ := by unfold Addr.add; split <;> simp_all
      rw [hx] at h1
      rw [h1]
      have hjz : j < zs.length := by omega
      have hw := bounds_u8 (hwz _ (List.getElem_mem hjz))
      simp only [List.getElem?_map, List.getElem?_take, if_pos hj, List.getElem?_eq_getElem hjz, Option.map_some, Option.some.injEq] at hu
      simp only [List.getD_eq_getElem?_getD, List.getElem?_eq_getElem hjz, Option.getD_some]
      rw [← hu, Int.toNat_of_nonneg hw.1]
end Go.Proofs.Ytpgnappddddlpaa

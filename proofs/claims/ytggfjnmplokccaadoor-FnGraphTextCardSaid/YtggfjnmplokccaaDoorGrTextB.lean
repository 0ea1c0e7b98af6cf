/- A graph's text as data (no condition). -/
import Derived.Test.YtggfjnmplokccaaDoorGrLineB
namespace Go.Proofs.YtggfjnmplokccaaDoor
open Go.RowKit

def textG (N : Int) (es : List GE) : ByteArray := es.foldl (fun s e => s ++ joinK e 3 ++ nlS) (numS N ++ nlS)
def graphT (N : Int) (es : List GE) : ByteArray := if graphB N es then textG N es else ⟨#[]⟩
theorem textG_snoc (N : Int) (es : List GE) (e : GE) : textG N (es ++ [e]) = textG N es ++ joinK e 3 ++ nlS := by simp [textG]
theorem fold_size : ∀ (es : List GE) (s : ByteArray), (∀ e ∈ es, EdgeNum e) → (es.foldl (fun s e => s ++ joinK e 3 ++ nlS) s).size ≤ s.size + 51 * es.length
  | [], s, _ => by simp
  | e :: r, s, h => by
    rw [List.foldl_cons, List.length_cons]
    have h1 := fold_size r (s ++ joinK e 3 ++ nlS) (fun x hx => h x (List.mem_cons_of_mem _ hx))
    have h2 := joinK_size (h e (List.mem_cons_self ..)) 3
    have h3 : nlS.size = 1 := rfl
    rw [ByteArray.size_append, ByteArray.size_append] at h1
    omega
theorem textG_size {N : Int} {es : List GE} (hN : numOk' N) (h : ∀ e ∈ es, EdgeNum e) : (textG N es).size ≤ 17 + 51 * es.length := by
  have h1 := fold_size es (numS N ++ nlS) h
  have h2 := numS_size hN
  have h3 : nlS.size = 1 := rfl
  rw [ByteArray.size_append] at h1
  unfold textG
  omega
theorem edge_num {N : Int} {e : GE} (h : edgeB N e = true) (hN : N ≤ 150) : EdgeNum e := by
  have := edgeB_iff h
  unfold EdgeNum numOk'
  omega
end Go.Proofs.YtggfjnmplokccaaDoor

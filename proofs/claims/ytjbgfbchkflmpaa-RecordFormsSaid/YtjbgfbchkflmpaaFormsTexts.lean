/- The texts of the law RecordForms that are none. -/
import Derived.Test.YtjbgfbchkflmpaaFormsBase
namespace Go.Proofs.Ytjbgfbchkflmpaa
open Go.RowKit

theorem text0 {A : ByteArray} (hA : A.data.toList = [0, 0, 0, 1, 2, 3, 3, 0, 97, 98, 99, 0, 0, 0, 0, 0, 0, 0, 0, 0, 0, 0, 0, 0, 0, 0, 0, 0, 0, 0, 0, 0]) : ¬ GetOk (⟨#[]⟩) :=
  text_no (l := []) (by rfl) (.inl (by decide))
theorem text1 {A : ByteArray} (hA : A.data.toList = [0, 0, 0, 1, 2, 3, 3, 0, 97, 98, 99, 0, 0, 0, 0, 0, 0, 0, 0, 0, 0, 0, 0, 0, 0, 0, 0, 0, 0, 0, 0, 0]) : ¬ GetOk (A.extract 0 31) :=
  text_no (l := [0, 0, 0, 1, 2, 3, 3, 0, 97, 98, 99, 0, 0, 0, 0, 0, 0, 0, 0, 0, 0, 0, 0, 0, 0, 0, 0, 0, 0, 0, 0]) (by simp only [ByteArray.data_append, Array.toList_append, extract_toList, hA]; rfl) (.inl (by decide))
theorem text2 {A : ByteArray} (hA : A.data.toList = [0, 0, 0, 1, 2, 3, 3, 0, 97, 98, 99, 0, 0, 0, 0, 0, 0, 0, 0, 0, 0, 0, 0, 0, 0, 0, 0, 0, 0, 0, 0, 0]) : ¬ GetOk (A ++ ⟨#[120]⟩) :=
  text_no (l := [0, 0, 0, 1, 2, 3, 3, 0, 97, 98, 99, 0, 0, 0, 0, 0, 0, 0, 0, 0, 0, 0, 0, 0, 0, 0, 0, 0, 0, 0, 0, 0, 120]) (by simp only [ByteArray.data_append, Array.toList_append, extract_toList, hA]; rfl) (.inl (by decide))
theorem text3 {A : ByteArray} (hA : A.data.toList = [0, 0, 0, 1, 2, 3, 3, 0, 97, 98, 99, 0, 0, 0, 0, 0, 0, 0, 0, 0, 0, 0, 0, 0, 0, 0, 0, 0, 0, 0, 0, 0]) : ¬ GetOk (⟨#[128]⟩ ++ A.extract 1 32) :=
  text_no (l := [128, 0, 0, 1, 2, 3, 3, 0, 97, 98, 99, 0, 0, 0, 0, 0, 0, 0, 0, 0, 0, 0, 0, 0, 0, 0, 0, 0, 0, 0, 0, 0]) (by simp only [ByteArray.data_append, Array.toList_append, extract_toList, hA]; rfl) (.inr (.inl (by decide)))
theorem text4 {A : ByteArray} (hA : A.data.toList = [0, 0, 0, 1, 2, 3, 3, 0, 97, 98, 99, 0, 0, 0, 0, 0, 0, 0, 0, 0, 0, 0, 0, 0, 0, 0, 0, 0, 0, 0, 0, 0]) : ¬ GetOk (⟨#[0, 0, 0, 0]⟩ ++ A.extract 4 32) :=
  text_no (l := [0, 0, 0, 0, 2, 3, 3, 0, 97, 98, 99, 0, 0, 0, 0, 0, 0, 0, 0, 0, 0, 0, 0, 0, 0, 0, 0, 0, 0, 0, 0, 0]) (by simp only [ByteArray.data_append, Array.toList_append, extract_toList, hA]; rfl) (.inr (.inr (.inl (by decide))))
theorem text5 {A : ByteArray} (hA : A.data.toList = [0, 0, 0, 1, 2, 3, 3, 0, 97, 98, 99, 0, 0, 0, 0, 0, 0, 0, 0, 0, 0, 0, 0, 0, 0, 0, 0, 0, 0, 0, 0, 0]) : ¬ GetOk (A.extract 0 4 ++ ⟨#[48]⟩ ++ A.extract 5 32) :=
  text_no (l := [0, 0, 0, 1, 48, 3, 3, 0, 97, 98, 99, 0, 0, 0, 0, 0, 0, 0, 0, 0, 0, 0, 0, 0, 0, 0, 0, 0, 0, 0, 0, 0]) (by simp only [ByteArray.data_append, Array.toList_append, extract_toList, hA]; rfl) (.inr (.inr (.inr (.inl (by decide)))))
theorem text6 {A : ByteArray} (hA : A.data.toList = [0, 0, 0, 1, 2, 3, 3, 0, 97, 98, 99, 0, 0, 0, 0, 0, 0, 0, 0, 0, 0, 0, 0, 0, 0, 0, 0, 0, 0, 0, 0, 0]) : ¬ GetOk (A.extract 0 5 ++ ⟨#[5]⟩ ++ A.extract 6 32) :=
  text_no (l := [0, 0, 0, 1, 2, 5, 3, 0, 97, 98, 99, 0, 0, 0, 0, 0, 0, 0, 0, 0, 0, 0, 0, 0, 0, 0, 0, 0, 0, 0, 0, 0]) (by simp only [ByteArray.data_append, Array.toList_append, extract_toList, hA]; rfl) (.inr (.inr (.inr (.inr (.inl (by decide))))))
theorem text7 {A : ByteArray} (hA : A.data.toList = [0, 0, 0, 1, 2, 3, 3, 0, 97, 98, 99, 0, 0, 0, 0, 0, 0, 0, 0, 0, 0, 0, 0, 0, 0, 0, 0, 0, 0, 0, 0, 0]) : ¬ GetOk (A.extract 0 5 ++ ⟨#[4]⟩ ++ A.extract 6 32) :=
  text_no (l := [0, 0, 0, 1, 2, 4, 3, 0, 97, 98, 99, 0, 0, 0, 0, 0, 0, 0, 0, 0, 0, 0, 0, 0, 0, 0, 0, 0, 0, 0, 0, 0]) (by simp only [ByteArray.data_append, Array.toList_append, extract_toList, hA]; rfl) (.inr (.inr (.inr (.inr (.inr (.inl (by decide)))))))
theorem text8 {A : ByteArray} (hA : A.data.toList = [0, 0, 0, 1, 2, 3, 3, 0, 97, 98, 99, 0, 0, 0, 0, 0, 0, 0, 0, 0, 0, 0, 0, 0, 0, 0, 0, 0, 0, 0, 0, 0]) : ¬ GetOk (A.extract 0 6 ++ ⟨#[25]⟩ ++ A.extract 7 32) :=
  text_no (l := [0, 0, 0, 1, 2, 3, 25, 0, 97, 98, 99, 0, 0, 0, 0, 0, 0, 0, 0, 0, 0, 0, 0, 0, 0, 0, 0, 0, 0, 0, 0, 0]) (by simp only [ByteArray.data_append, Array.toList_append, extract_toList, hA]; rfl) (.inr (.inr (.inr (.inr (.inr (.inr (.inl (by decide))))))))
theorem text9 {A : ByteArray} (hA : A.data.toList = [0, 0, 0, 1, 2, 3, 3, 0, 97, 98, 99, 0, 0, 0, 0, 0, 0, 0, 0, 0, 0, 0, 0, 0, 0, 0, 0, 0, 0, 0, 0, 0]) : ¬ GetOk (A.extract 0 6 ++ ⟨#[2]⟩ ++ A.extract 7 32) :=
  text_no (l := [0, 0, 0, 1, 2, 3, 2, 0, 97, 98, 99, 0, 0, 0, 0, 0, 0, 0, 0, 0, 0, 0, 0, 0, 0, 0, 0, 0, 0, 0, 0, 0]) (by simp only [ByteArray.data_append, Array.toList_append, extract_toList, hA]; rfl) (.inr (.inr (.inr (.inr (.inr (.inr (.inr (.inr ⟨10, by decide, by decide, by decide⟩))))))))
theorem text10 {A : ByteArray} (hA : A.data.toList = [0, 0, 0, 1, 2, 3, 3, 0, 97, 98, 99, 0, 0, 0, 0, 0, 0, 0, 0, 0, 0, 0, 0, 0, 0, 0, 0, 0, 0, 0, 0, 0]) : ¬ GetOk (A.extract 0 7 ++ ⟨#[1]⟩ ++ A.extract 8 32) :=
  text_no (l := [0, 0, 0, 1, 2, 3, 3, 1, 97, 98, 99, 0, 0, 0, 0, 0, 0, 0, 0, 0, 0, 0, 0, 0, 0, 0, 0, 0, 0, 0, 0, 0]) (by simp only [ByteArray.data_append, Array.toList_append, extract_toList, hA]; rfl) (.inr (.inr (.inr (.inr (.inr (.inr (.inr (.inl (by decide)))))))))
theorem text11 {A : ByteArray} (hA : A.data.toList = [0, 0, 0, 1, 2, 3, 3, 0, 97, 98, 99, 0, 0, 0, 0, 0, 0, 0, 0, 0, 0, 0, 0, 0, 0, 0, 0, 0, 0, 0, 0, 0]) : ¬ GetOk (A.extract 0 31 ++ ⟨#[1]⟩) :=
  text_no (l := [0, 0, 0, 1, 2, 3, 3, 0, 97, 98, 99, 0, 0, 0, 0, 0, 0, 0, 0, 0, 0, 0, 0, 0, 0, 0, 0, 0, 0, 0, 0, 1]) (by simp only [ByteArray.data_append, Array.toList_append, extract_toList, hA]; rfl) (.inr (.inr (.inr (.inr (.inr (.inr (.inr (.inr ⟨31, by decide, by decide, by decide⟩))))))))

theorem text_cells {A : ByteArray} (hA : A.data.toList = [0, 0, 0, 1, 2, 3, 3, 0, 97, 98, 99, 0, 0, 0, 0, 0, 0, 0, 0, 0, 0, 0, 0, 0, 0, 0, 0, 0, 0, 0, 0, 0]) (W : World) (v : Nat) (hv : v < 12) : ∃ s : ByteArray, ¬ GetOk s ∧
    (W.alloc (.cells #[.string ⟨#[]⟩, .string (A.extract 0 31), .string (A ++ ⟨#[120]⟩), .string (⟨#[128]⟩ ++ A.extract 1 32), .string (⟨#[0, 0, 0, 0]⟩ ++ A.extract 4 32), .string (A.extract 0 4 ++ ⟨#[48]⟩ ++ A.extract 5 32), .string (A.extract 0 5 ++ ⟨#[5]⟩ ++ A.extract 6 32), .string (A.extract 0 5 ++ ⟨#[4]⟩ ++ A.extract 6 32), .string (A.extract 0 6 ++ ⟨#[25]⟩ ++ A.extract 7 32), .string (A.extract 0 6 ++ ⟨#[2]⟩ ++ A.extract 7 32), .string (A.extract 0 7 ++ ⟨#[1]⟩ ++ A.extract 8 32), .string (A.extract 0 31 ++ ⟨#[1]⟩)] 9)).cell? ⟨W.heap.size, v, none⟩ = some (.string s) := by
  have h := fun j => World.cell?_alloc_at (w := W) #[.string ⟨#[]⟩, .string (A.extract 0 31), .string (A ++ ⟨#[120]⟩), .string (⟨#[128]⟩ ++ A.extract 1 32), .string (⟨#[0, 0, 0, 0]⟩ ++ A.extract 4 32), .string (A.extract 0 4 ++ ⟨#[48]⟩ ++ A.extract 5 32), .string (A.extract 0 5 ++ ⟨#[5]⟩ ++ A.extract 6 32), .string (A.extract 0 5 ++ ⟨#[4]⟩ ++ A.extract 6 32), .string (A.extract 0 6 ++ ⟨#[25]⟩ ++ A.extract 7 32), .string (A.extract 0 6 ++ ⟨#[2]⟩ ++ A.extract 7 32), .string (A.extract 0 7 ++ ⟨#[1]⟩ ++ A.extract 8 32), .string (A.extract 0 31 ++ ⟨#[1]⟩)] 9 W.heap.size j rfl
  match v, hv with
  | 0, _ => exact ⟨_, text0 hA, h 0⟩
  | 1, _ => exact ⟨_, text1 hA, h 1⟩
  | 2, _ => exact ⟨_, text2 hA, h 2⟩
  | 3, _ => exact ⟨_, text3 hA, h 3⟩
  | 4, _ => exact ⟨_, text4 hA, h 4⟩
  | 5, _ => exact ⟨_, text5 hA, h 5⟩
  | 6, _ => exact ⟨_, text6 hA, h 6⟩
  | 7, _ => exact ⟨_, text7 hA, h 7⟩
  | 8, _ => exact ⟨_, text8 hA, h 8⟩
  | 9, _ => exact ⟨_, text9 hA, h 9⟩
  | 10, _ => exact ⟨_, text10 hA, h 10⟩
  | 11, _ => exact ⟨_, text11 hA, h 11⟩

end Go.Proofs.Ytjbgfbchkflmpaa

/-
  What is proved here: fits, of the other constraints.
  What is proved here: Right, of any constraint.
-/
import Derived.Test.YtpgecdhieakilaaGreatDoorFg
namespace Go.Proofs.YtpgecdhieakilaaGreatDoor
open Go.RowKit Go.Shelf
set_option linter.unusedVariables false
set_option linter.unusedSimpArgs false

def special : List (List UInt8) := [[102, 122, 110, 95, 115, 111, 114, 116], [102, 122, 110, 95, 105, 110, 118, 101, 114, 115, 101], [102, 122, 110, 95, 100, 105, 115, 106, 117, 110, 99, 116, 105, 118, 101], [102, 122, 110, 95, 100, 105, 102, 102, 110], [102, 122, 110, 95, 103, 108, 111, 98, 97, 108, 95, 99, 97, 114, 100, 105, 110, 97, 108, 105, 116, 121], [102, 122, 110, 95, 103, 108, 111, 98, 97, 108, 95, 99, 97, 114, 100, 105, 110, 97, 108, 105, 116, 121, 95, 99, 108, 111, 115, 101, 100], [102, 122, 110, 95, 109, 97, 120, 105, 109, 117, 109, 95, 105, 110, 116], [102, 122, 110, 95, 109, 105, 110, 105, 109, 117, 109, 95, 105, 110, 116], [102, 122, 110, 95, 116, 97, 98, 108, 101, 95, 105, 110, 116], [102, 122, 110, 95, 114, 101, 103, 117, 108, 97, 114], [102, 122, 110, 95, 99, 117, 109, 117, 108, 97, 116, 105, 118, 101], [102, 122, 110, 95, 98, 105, 110, 95, 112, 97, 99, 107, 105, 110, 103], [102, 122, 110, 95, 98, 105, 110, 95, 112, 97, 99, 107, 105, 110, 103, 95, 99, 97, 112, 97], [102, 122, 110, 95, 98, 105, 110, 95, 112, 97, 99, 107, 105, 110, 103, 95, 108, 111, 97, 100], [102, 122, 110, 95, 107, 110, 97, 112, 115, 97, 99, 107]]
theorem rule_other {nm : List UInt8} (h : ∀ x ∈ special, nm ≠ x) : ruleN nm = if Lib.hasPrefix nm [105, 110, 116, 95, 108, 105, 110, 95] || Lib.hasPrefix nm [98, 111, 111, 108, 95, 108, 105, 110, 95] then 9 else 0 := by
  unfold ruleN
  rw [if_neg (h _ (by simp [special]))]
  rw [if_neg (h _ (by simp [special]))]
  rw [if_neg (h _ (by simp [special]))]
  rw [if_neg (h _ (by simp [special]))]
  rw [if_neg (h _ (by simp [special]))]
  rw [if_neg (h _ (by simp [special]))]
  rw [if_neg (h _ (by simp [special]))]
  rw [if_neg (h _ (by simp [special]))]
  rw [if_neg (h _ (by simp [special]))]
  rw [if_neg (h _ (by simp [special]))]
  rw [if_neg (h _ (by simp [special]))]
  rw [if_neg (h _ (by simp [special]))]
  rw [if_neg (h _ (by simp [special]))]
  rw [if_neg (h _ (by simp [special]))]
  rw [if_neg (h _ (by simp [special]))]

set_option maxRecDepth 100000 in
set_option maxHeartbeats 4000000 in
theorem fits_other {B : Nat} {W : World} {a8 : Option Addr} {n8 c8 : Nat} {ags : List Ag} (nm : List UInt8) (h : Sa B W (.slice a8 n8 c8) ags) (hlen : ags.length = n8) (hc : n8 ≤ c8) (hc9 : c8 ≤ 9223372036854775807) (hl : ∀ g ∈ ags, g.l.length ≤ 1000) (hn : ∀ x ∈ special, nm ≠ x)
    (h2 : ruleN nm = 9 → 2 ≤ n8) (hn9 : n8 ≤ 1000) :
    Calls Tryz.prog 51 #[.agg #[.string ⟨nm.toArray⟩, .slice a8 n8 c8]] W fun e w' => e = .returned (.bool (fitsB nm ags)) ∧ Below W.heap.size W w' := by
  have e0 : nm ≠ [102, 122, 110, 95, 115, 111, 114, 116] := hn _ (by simp [special])
  have e1 : nm ≠ [102, 122, 110, 95, 105, 110, 118, 101, 114, 115, 101] := hn _ (by simp [special])
  have e2 : nm ≠ [102, 122, 110, 95, 100, 105, 115, 106, 117, 110, 99, 116, 105, 118, 101] := hn _ (by simp [special])
  have e3 : nm ≠ [102, 122, 110, 95, 100, 105, 102, 102, 110] := hn _ (by simp [special])
  have e4 : nm ≠ [102, 122, 110, 95, 103, 108, 111, 98, 97, 108, 95, 99, 97, 114, 100, 105, 110, 97, 108, 105, 116, 121] := hn _ (by simp [special])
  have e5 : nm ≠ [102, 122, 110, 95, 103, 108, 111, 98, 97, 108, 95, 99, 97, 114, 100, 105, 110, 97, 108, 105, 116, 121, 95, 99, 108, 111, 115, 101, 100] := hn _ (by simp [special])
  have e6 : nm ≠ [102, 122, 110, 95, 109, 97, 120, 105, 109, 117, 109, 95, 105, 110, 116] := hn _ (by simp [special])
  have e7 : nm ≠ [102, 122, 110, 95, 109, 105, 110, 105, 109, 117, 109, 95, 105, 110, 116] := hn _ (by simp [special])
  have e8 : nm ≠ [102, 122, 110, 95, 116, 97, 98, 108, 101, 95, 105, 110, 116] := hn _ (by simp [special])
  have e9 : nm ≠ [102, 122, 110, 95, 114, 101, 103, 117, 108, 97, 114] := hn _ (by simp [special])
  have e10 : nm ≠ [102, 122, 110, 95, 99, 117, 109, 117, 108, 97, 116, 105, 118, 101] := hn _ (by simp [special])
  have e11 : nm ≠ [102, 122, 110, 95, 98, 105, 110, 95, 112, 97, 99, 107, 105, 110, 103] := hn _ (by simp [special])
  have e12 : nm ≠ [102, 122, 110, 95, 98, 105, 110, 95, 112, 97, 99, 107, 105, 110, 103, 95, 99, 97, 112, 97] := hn _ (by simp [special])
  have e13 : nm ≠ [102, 122, 110, 95, 98, 105, 110, 95, 112, 97, 99, 107, 105, 110, 103, 95, 108, 111, 97, 100] := hn _ (by simp [special])
  have e14 : nm ≠ [102, 122, 110, 95, 107, 110, 97, 112, 115, 97, 99, 107] := hn _ (by simp [special])
  have hb0 : (nm == [102, 122, 110, 95, 115, 111, 114, 116]) = false := by simpa using e0
  have ha0 : ((⟨nm.toArray⟩ : ByteArray) == ⟨#[102, 122, 110, 95, 115, 111, 114, 116]⟩) = false := by show (nm.toArray == #[102, 122, 110, 95, 115, 111, 114, 116]) = false; rw [show (#[102, 122, 110, 95, 115, 111, 114, 116] : Array UInt8) = ([102, 122, 110, 95, 115, 111, 114, 116] : List UInt8).toArray from rfl]; simpa using e0
  have hb1 : (nm == [102, 122, 110, 95, 105, 110, 118, 101, 114, 115, 101]) = false := by simpa using e1
  have ha1 : ((⟨nm.toArray⟩ : ByteArray) == ⟨#[102, 122, 110, 95, 105, 110, 118, 101, 114, 115, 101]⟩) = false := by show (nm.toArray == #[102, 122, 110, 95, 105, 110, 118, 101, 114, 115, 101]) = false; rw [show (#[102, 122, 110, 95, 105, 110, 118, 101, 114, 115, 101] : Array UInt8) = ([102, 122, 110, 95, 105, 110, 118, 101, 114, 115, 101] : List UInt8).toArray from rfl]; simpa using e1
  have hb2 : (nm == [102, 122, 110, 95, 100, 105, 115, 106, 117, 110, 99, 116, 105, 118, 101]) = false := by simpa using e2
  have ha2 : ((⟨nm.toArray⟩ : ByteArray) == ⟨#[102, 122, 110, 95, 100, 105, 115, 106, 117, 110, 99, 116, 105, 118, 101]⟩) = false := by show (nm.toArray == #[102, 122, 110, 95, 100, 105, 115, 106, 117, 110, 99, 116, 105, 118, 101]) = false; rw [show (#[102, 122, 110, 95, 100, 105, 115, 106, 117, 110, 99, 116, 105, 118, 101] : Array UInt8) = ([102, 122, 110, 95, 100, 105, 115, 106, 117, 110, 99, 116, 105, 118, 101] : List UInt8).toArray from rfl]; simpa using e2
  have hb3 : (nm == [102, 122, 110, 95, 100, 105, 102, 102, 110]) = false := by simpa using e3
  have ha3 : ((⟨nm.toArray⟩ : ByteArray) == ⟨#[102, 122, 110, 95, 100, 105, 102, 102, 110]⟩) = false := by show (nm.toArray == #[102, 122, 110, 95, 100, 105, 102, 102, 110]) = false; rw [show (#[102, 122, 110, 95, 100, 105, 102, 102, 110] : Array UInt8) = ([102, 122, 110, 95, 100, 105, 102, 102, 110] : List UInt8).toArray from rfl]; simpa using e3
  have hb4 : (nm == [102, 122, 110, 95, 103, 108, 111, 98, 97, 108, 95, 99, 97, 114, 100, 105, 110, 97, 108, 105, 116, 121]) = false := by simpa using e4
  have ha4 : ((⟨nm.toArray⟩ : ByteArray) == ⟨#[102, 122, 110, 95, 103, 108, 111, 98, 97, 108, 95, 99, 97, 114, 100, 105, 110, 97, 108, 105, 116, 121]⟩) = false := by show (nm.toArray == #[102, 122, 110, 95, 103, 108, 111, 98, 97, 108, 95, 99, 97, 114, 100, 105, 110, 97, 108, 105, 116, 121]) = false; rw [show (#[102, 122, 110, 95, 103, 108, 111, 98, 97, 108, 95, 99, 97, 114, 100, 105, 110, 97, 108, 105, 116, 121] : Array UInt8) = ([102, 122, 110, 95, 103, 108, 111, 98, 97, 108, 95, 99, 97, 114, 100, 105, 110, 97, 108, 105, 116, 121] : List UInt8).toArray from rfl]; simpa using e4
  have hb5 : (nm == [102, 122, 110, 95, 103, 108, 111, 98, 97, 108, 95, 99, 97, 114, 100, 105, 110, 97, 108, 105, 116, 121, 95, 99, 108, 111, 115, 101, 100]) = false := by simpa using e5
  have ha5 : ((⟨nm.toArray⟩ : ByteArray) == ⟨#[102, 122, 110, 95, 103, 108, 111, 98, 97, 108, 95, 99, 97, 114, 100, 105, 110, 97, 108, 105, 116, 121, 95, 99, 108, 111, 115, 101, 100]⟩) = false := by show (nm.toArray == #[102, 122, 110, 95, 103, 108, 111, 98, 97, 108, 95, 99, 97, 114, 100, 105, 110, 97, 108, 105, 116, 121, 95, 99, 108, 111, 115, 101, 100]) = false; rw [show (#[102, 122, 110, 95, 103, 108, 111, 98, 97, 108, 95, 99, 97, 114, 100, 105, 110, 97, 108, 105, 116, 121, 95, 99, 108, 111, 115, 101, 100] : Array UInt8) = ([102, 122, 110, 95, 103, 108, 111, 98, 97, 108, 95, 99, 97, 114, 100, 105, 110, 97, 108, 105, 116, 121, 95, 99, 108, 111, 115, 101, 100] : List UInt8).toArray from rfl]; simpa using e5
  have hb6 : (nm == [102, 122, 110, 95, 109, 97, 120, 105, 109, 117, 109, 95, 105, 110, 116]) = false := by simpa using e6
  have ha6 : ((⟨nm.toArray⟩ : ByteArray) == ⟨#[102, 122, 110, 95, 109, 97, 120, 105, 109, 117, 109, 95, 105, 110, 116]⟩) = false := by show (nm.toArray == #[102, 122, 110, 95, 109, 97, 120, 105, 109, 117, 109, 95, 105, 110, 116]) = false; rw [show (#[102, 122, 110, 95, 109, 97, 120, 105, 109, 117, 109, 95, 105, 110, 116] : Array UInt8) = ([102, 122, 110, 95, 109, 97, 120, 105, 109, 117, 109, 95, 105, 110, 116] : List UInt8).toArray from rfl]; simpa using e6
  have hb7 : (nm == [102, 122, 110, 95, 109, 105, 110, 105, 109, 117, 109, 95, 105, 110, 116]) = false := by simpa using e7
  have ha7 : ((⟨nm.toArray⟩ : ByteArray) == ⟨#[102, 122, 110, 95, 109, 105, 110, 105, 109, 117, 109, 95, 105, 110, 116]⟩) = false := by show (nm.toArray == #[102, 122, 110, 95, 109, 105, 110, 105, 109, 117, 109, 95, 105, 110, 116]) = false; rw [show (#[102, 122, 110, 95, 109, 105, 110, 105, 109, 117, 109, 95, 105, 110, 116] : Array UInt8) = ([102, 122, 110, 95, 109, 105, 110, 105, 109, 117, 109, 95, 105, 110, 116] : List UInt8).toArray from rfl]; simpa using e7
  have hb8 : (nm == [102, 122, 110, 95, 116, 97, 98, 108, 101, 95, 105, 110, 116]) = false := by simpa using e8
  have ha8 : ((⟨nm.toArray⟩ : ByteArray) == ⟨#[102, 122, 110, 95, 116, 97, 98, 108, 101, 95, 105, 110, 116]⟩) = false := by show (nm.toArray == #[102, 122, 110, 95, 116, 97, 98, 108, 101, 95, 105, 110, 116]) = false; rw [show (#[102, 122, 110, 95, 116, 97, 98, 108, 101, 95, 105, 110, 116] : Array UInt8) = ([102, 122, 110, 95, 116, 97, 98, 108, 101, 95, 105, 110, 116] : List UInt8).toArray from rfl]; simpa using e8
  have hb9 : (nm == [102, 122, 110, 95, 114, 101, 103, 117, 108, 97, 114]) = false := by simpa using e9
  have ha9 : ((⟨nm.toArray⟩ : ByteArray) == ⟨#[102, 122, 110, 95, 114, 101, 103, 117, 108, 97, 114]⟩) = false := by show (nm.toArray == #[102, 122, 110, 95, 114, 101, 103, 117, 108, 97, 114]) = false; rw [show (#[102, 122, 110, 95, 114, 101, 103, 117, 108, 97, 114] : Array UInt8) = ([102, 122, 110, 95, 114, 101, 103, 117, 108, 97, 114] : List UInt8).toArray from rfl]; simpa using e9
  have hb10 : (nm == [102, 122, 110, 95, 99, 117, 109, 117, 108, 97, 116, 105, 118, 101]) = false := by simpa using e10
  have ha10 : ((⟨nm.toArray⟩ : ByteArray) == ⟨#[102, 122, 110, 95, 99, 117, 109, 117, 108, 97, 116, 105, 118, 101]⟩) = false := by show (nm.toArray == #[102, 122, 110, 95, 99, 117, 109, 117, 108, 97, 116, 105, 118, 101]) = false; rw [show (#[102, 122, 110, 95, 99, 117, 109, 117, 108, 97, 116, 105, 118, 101] : Array UInt8) = ([102, 122, 110, 95, 99, 117, 109, 117, 108, 97, 116, 105, 118, 101] : List UInt8).toArray from rfl]; simpa using e10
  have hb11 : (nm == [102, 122, 110, 95, 98, 105, 110, 95, 112, 97, 99, 107, 105, 110, 103]) = false := by simpa using e11
  have ha11 : ((⟨nm.toArray⟩ : ByteArray) == ⟨#[102, 122, 110, 95, 98, 105, 110, 95, 112, 97, 99, 107, 105, 110, 103]⟩) = false := by show (nm.toArray == #[102, 122, 110, 95, 98, 105, 110, 95, 112, 97, 99, 107, 105, 110, 103]) = false; rw [show (#[102, 122, 110, 95, 98, 105, 110, 95, 112, 97, 99, 107, 105, 110, 103] : Array UInt8) = ([102, 122, 110, 95, 98, 105, 110, 95, 112, 97, 99, 107, 105, 110, 103] : List UInt8).toArray from rfl]; simpa using e11
  have hb12 : (nm == [102, 122, 110, 95, 98, 105, 110, 95, 112, 97, 99, 107, 105, 110, 103, 95, 99, 97, 112, 97]) = false := by simpa using e12
  have ha12 : ((⟨nm.toArray⟩ : ByteArray) == ⟨#[102, 122, 110, 95, 98, 105, 110, 95, 112, 97, 99, 107, 105, 110, 103, 95, 99, 97, 112, 97]⟩) = false := by show (nm.toArray == #[102, 122, 110, 95, 98, 105, 110, 95, 112, 97, 99, 107, 105, 110, 103, 95, 99, 97, 112, 97]) = false; rw [show (#[102, 122, 110, 95, 98, 105, 110, 95, 112, 97, 99, 107, 105, 110, 103, 95, 99, 97, 112, 97] : Array UInt8) = ([102, 122, 110, 95, 98, 105, 110, 95, 112, 97, 99, 107, 105, 110, 103, 95, 99, 97, 112, 97] : List UInt8).toArray from rfl]; simpa using e12
  have hb13 : (nm == [102, 122, 110, 95, 98, 105, 110, 95, 112, 97, 99, 107, 105, 110, 103, 95, 108, 111, 97, 100]) = false := by simpa using e13
  have ha13 : ((⟨nm.toArray⟩ : ByteArray) == ⟨#[102, 122, 110, 95, 98, 105, 110, 95, 112, 97, 99, 107, 105, 110, 103, 95, 108, 111, 97, 100]⟩) = false := by show (nm.toArray == #[102, 122, 110, 95, 98, 105, 110, 95, 112, 97, 99, 107, 105, 110, 103, 95, 108, 111, 97, 100]) = false; rw [show (#[102, 122, 110, 95, 98, 105, 110, 95, 112, 97, 99, 107, 105, 110, 103, 95, 108, 111, 97, 100] : Array UInt8) = ([102, 122, 110, 95, 98, 105, 110, 95, 112, 97, 99, 107, 105, 110, 103, 95, 108, 111, 97, 100] : List UInt8).toArray from rfl]; simpa using e13
  have hb14 : (nm == [102, 122, 110, 95, 107, 110, 97, 112, 115, 97, 99, 107]) = false := by simpa using e14
  have ha14 : ((⟨nm.toArray⟩ : ByteArray) == ⟨#[102, 122, 110, 95, 107, 110, 97, 112, 115, 97, 99, 107]⟩) = false := by show (nm.toArray == #[102, 122, 110, 95, 107, 110, 97, 112, 115, 97, 99, 107]) = false; rw [show (#[102, 122, 110, 95, 107, 110, 97, 112, 115, 97, 99, 107] : Array UInt8) = ([102, 122, 110, 95, 107, 110, 97, 112, 115, 97, 99, 107] : List UInt8).toArray from rfl]; simpa using e14
  have HRU : Hid (ruleN nm = if Lib.hasPrefix nm [105, 110, 116, 95, 108, 105, 110, 95] || Lib.hasPrefix nm [98, 111, 111, 108, 95, 108, 105, 110, 95] then 9 else 0) := rule_other hn
  clear hn e0 e1 e2 e3 e4 e5 e6 e7 e8 e9 e10 e11 e12 e13 e14
  have HE : Hid (fitsB nm ags = if Lib.hasPrefix nm [105, 110, 116, 95, 108, 105, 110, 95] || Lib.hasPrefix nm [98, 111, 111, 108, 95, 108, 105, 110, 95] then manyB (ags.take 2) else true) := by
    show fitsB nm ags = _
    unfold fitsB
    rw [HRU.out]
    by_cases hq : (Lib.hasPrefix nm [105, 110, 116, 95, 108, 105, 110, 95] || Lib.hasPrefix nm [98, 111, 111, 108, 95, 108, 105, 110, 95]) = true
    · rw [if_pos hq, if_pos hq]; rfl
    · rw [if_neg hq, if_neg hq]; rfl
  obtain ⟨p1, hp1⟩ : ∃ x, Lib.hasPrefix nm [105, 110, 116, 95, 108, 105, 110, 95] = x := ⟨_, rfl⟩
  obtain ⟨p2, hp2⟩ : ∃ x, Lib.hasPrefix nm [98, 111, 111, 108, 95, 108, 105, 110, 95] = x := ⟨_, rfl⟩
  have kP : ∀ X, Calls Tryz.prog 68 #[.string ⟨nm.toArray⟩, .string ⟨#[105, 110, 116, 95, 108, 105, 110, 95]⟩] X fun e w' => e = .returned (.bool p1) ∧ w' = X := fun X => (Any.strings_HasPrefix Tryz.laysHasPrefix68 ⟨nm.toArray⟩ ⟨#[105, 110, 116, 95, 108, 105, 110, 95]⟩ X).mono fun e w' ⟨he, hw⟩ => ⟨by rw [he]; have : Lib.hasPrefix nm [105, 110, 116, 95, 108, 105, 110, 95] = p1 := hp1; rw [← this], hw⟩
  have kQ : ∀ X, Calls Tryz.prog 68 #[.string ⟨nm.toArray⟩, .string ⟨#[98, 111, 111, 108, 95, 108, 105, 110, 95]⟩] X fun e w' => e = .returned (.bool p2) ∧ w' = X := fun X => (Any.strings_HasPrefix Tryz.laysHasPrefix68 ⟨nm.toArray⟩ ⟨#[98, 111, 111, 108, 95, 108, 105, 110, 95]⟩ X).mono fun e w' ⟨he, hw⟩ => ⟨by rw [he]; have : Lib.hasPrefix nm [98, 111, 111, 108, 95, 108, 105, 110, 95] = p2 := hp2; rw [← this], hw⟩
  have hbA : Below W.heap.size W (W.alloc (Obj.cells #[.string ⟨nm.toArray⟩, .slice a8 n8 c8] 32)) := (Below.refl _ W).alloc (Nat.le_refl _) _
  have HBA : Hid _ := hbA
  have H2 : Hid ((p1 || p2) = true → 2 ≤ n8) := fun hp => h2 (by rw [HRU.out, hp1, hp2, if_pos hp])
  have kM : 2 ≤ n8 → Calls Tryz.prog 73 #[.slice a8 2 c8] (W.alloc (Obj.cells #[.string ⟨nm.toArray⟩, .slice a8 n8 c8] 32)) fun e w' => e = .returned (.bool (manyB (ags.take 2))) ∧ Below (W.alloc (Obj.cells #[.string ⟨nm.toArray⟩, .slice a8 n8 c8] 32)).heap.size (W.alloc (Obj.cells #[.string ⟨nm.toArray⟩, .slice a8 n8 c8] 32)) w' := fun h9 => asManyG ((h.below hbA).take (k := 2) (by omega)) (by rw [List.length_take]; omega) (by omega) (fun g hg => by have := hl g (List.mem_of_mem_take hg); omega)
  have ha8 : 2 ≤ n8 → ∃ b off, a8 = some ⟨b, off, none⟩ := fun h9 => by
    obtain ⟨b, off, _, _, e, _⟩ := h.at (agAt_some (i := 0) (by omega))
    exact ⟨b, off, e⟩
  rw [hp1, hp2] at HE
  obtain ⟨rr, hrr⟩ : ∃ rr, fitsB nm ags = rr := ⟨_, rfl⟩
  rw [hrr] at HE ⊢
  have KM : Hid _ := kM
  have HA8 : Hid _ := ha8
  clear hp1 hp2 hbA h hl h2 kM ha8 hrr HRU hlen
  by_cases hpp : (p1 || p2) = true
  · obtain ⟨b, off, rfl⟩ := HA8.out (H2.out hpp)
    have kM := KM.out (H2.out hpp)
    have hq1 : (2 : Int) ≤ c8 := by have := H2.out hpp; omega
    rw [if_pos hpp] at HE
    rw [← HE.out] at kM
    cases p1 with
    | true =>
      go_enter Tryz.func51, Tryz.ntmps51
      go_wp2_with fail
      refine (kP _).mono ?_
      rintro e w1 ⟨rfl, rfl⟩
      go_wp2_with fail
      refine kM.mono ?_
      rintro e w2 ⟨rfl, hb2⟩
      have HB2 : Hid (Below W.heap.size W w2) := HBA.out.trans (hb2.mono (by simp))
      clear hb2
      go_wp2
      go_ret
      exact ⟨rfl, HB2.out⟩
    | false =>
      cases p2 with
      | false => simp at hpp
      | true =>
        go_enter Tryz.func51, Tryz.ntmps51
        go_wp2_with fail
        refine (kP _).mono ?_
        rintro e w1 ⟨rfl, rfl⟩
        go_wp2_with fail
        refine (kQ _).mono ?_
        rintro e w1 ⟨rfl, rfl⟩
        go_wp2_with fail
        refine kM.mono ?_
        rintro e w2 ⟨rfl, hb2⟩
        have HB2 : Hid (Below W.heap.size W w2) := HBA.out.trans (hb2.mono (by simp))
        clear hb2
        go_wp2
        go_ret
        exact ⟨rfl, HB2.out⟩
  · rw [if_neg hpp] at HE
    cases p1 with
    | true => simp at hpp
    | false =>
      cases p2 with
      | true => simp at hpp
      | false =>
        go_enter Tryz.func51, Tryz.ntmps51
        go_wp2_with fail
        refine (kP _).mono ?_
        rintro e w1 ⟨rfl, rfl⟩
        go_wp2_with fail
        refine (kQ _).mono ?_
        rintro e w1 ⟨rfl, rfl⟩
        go_wp2
        go_ret
        exact ⟨by rw [HE.out]; rfl, HBA.out⟩
end Go.Proofs.YtpgecdhieakilaaGreatDoor

namespace Go.Proofs.YtpgecdhieakilaaGreatDoor
open Go.RowKit Go.Shelf
set_option linter.unusedVariables false
set_option linter.unusedSimpArgs false

set_option maxRecDepth 100000
def six : List (List UInt8) := [[105], [98], [115], [73], [66], [83]]
def isLin (nm : List UInt8) : Bool := Lib.hasPrefix nm [105, 110, 116, 95, 108, 105, 110, 95] || Lib.hasPrefix nm [98, 111, 111, 108, 95, 108, 105, 110, 95]
def rowOk (k : Nat) : Bool := (partsF (rowK k).2.1).all (fun p => six.contains (Lib.trimPrefix p [97])) && (decide ((partsF (rowK k).2.1).length ≤ 100) && (decide ((rowK k).2.1.length ≤ 100) && (nmL (rowK k).2.2).all fun nm => !isLin nm || decide (2 ≤ (partsF (rowK k).2.1).length)))
theorem rows_ok : (List.range 48).all rowOk = true := by kernel_rfl
theorem find_row (nm : List UInt8) : (findT nm).2 = [] ∨ ∃ k, k < 48 ∧ hit nm k = true ∧ (findT nm).2 = (rowK k).2.1 := by
  unfold findT
  cases h : (List.range 48).find? (hit nm) with
  | none => exact .inl rfl
  | some k => exact .inr ⟨k, List.mem_range.1 (List.mem_of_find?_eq_some h), List.find?_some h, rfl⟩
theorem find_ok (nm : List UInt8) (h : (findT nm).2 ≠ []) : (∀ p ∈ partsF (findT nm).2, Lib.trimPrefix p [97] ∈ six) ∧ (partsF (findT nm).2).length ≤ 100 ∧ (findT nm).2.length ≤ 100 ∧ (isLin nm = true → 2 ≤ (partsF (findT nm).2).length) := by
  rcases find_row nm with h0 | ⟨k, hk, hh, e⟩
  · exact absurd h0 h
  · rw [e]
    have hr := List.all_eq_true.1 rows_ok k (List.mem_range.2 hk)
    simp only [rowOk, Bool.and_eq_true, decide_eq_true_eq, List.all_eq_true] at hr
    refine ⟨fun p hp => by simpa using hr.1 p hp, hr.2.1, hr.2.2.1, fun hl => ?_⟩
    have hm : nm ∈ nmL (rowK k).2.2 := by simpa [hit] using hh
    have := hr.2.2.2 nm hm
    rw [hl] at this
    simpa using this
theorem eq_len {ags : List Ag} {parts : List (List UInt8)} (h : eqB ags parts = true) : ags.length = parts.length ∧ ∀ (k : Nat) g p, ags[k]? = some g → parts[k]? = some p → shapedB g p = true := by
  simp only [eqB, Bool.and_eq_true, decide_eq_true_eq] at h
  refine ⟨h.1, fun k g p h1 h2 => ?_⟩
  have := List.all_eq_true.1 h.2 k (List.mem_range.2 (List.getElem?_eq_some_iff.1 h1).1)
  simpa [h1, h2] using this
theorem fits_any {B : Nat} {W : World} {a8 : Option Addr} {n8 c8 : Nat} {ags : List Ag} (nm : List UInt8) (hF : (findT nm).2 ≠ []) (h : Sa B W (.slice a8 n8 c8) ags) (hlen : ags.length = n8) (hc : n8 ≤ c8) (hc9 : c8 ≤ 9223372036854775807) (heq : eqB ags (partsF (findT nm).2) = true) (hlong : ags.any longB = false) :
    Calls Tryz.prog 51 #[.agg #[.string ⟨nm.toArray⟩, .slice a8 n8 c8]] W fun e w' => e = .returned (.bool (fitsB nm ags)) ∧ Below W.heap.size W w' := by
  obtain ⟨hpl, hsh⟩ := eq_len heq
  obtain ⟨_, hp100, _, hlin⟩ := find_ok nm hF
  have hl : ∀ g ∈ ags, g.l.length ≤ 1000 := fun g hg => by
    have := List.any_eq_false.1 hlong g hg
    simp [longB] at this
    omega
  by_cases hs : ∀ x ∈ special, nm ≠ x
  · refine fits_other nm h hlen hc hc9 hl hs (fun hr => ?_) (by omega)
    have hli : isLin nm = true := by
      rw [rule_other hs] at hr
      unfold isLin
      by_cases hq : (Lib.hasPrefix nm [105, 110, 116, 95, 108, 105, 110, 95] || Lib.hasPrefix nm [98, 111, 111, 108, 95, 108, 105, 110, 95]) = true
      · exact hq
      · rw [if_neg hq] at hr; cases hr
    have := hlin hli
    omega
  · have : nm ∈ special := by
      apply Classical.byContradiction
      intro hn
      exact hs (fun x hx e => hn (e ▸ hx))
    simp only [special, List.mem_cons, List.mem_nil_iff, or_false] at this
    clear hs hlin
    rcases this with rfl | rfl | rfl | rfl | rfl | rfl | rfl | rfl | rfl | rfl | rfl | rfl | rfl | rfl | rfl
    · have hk : (partsF (findT [102, 122, 110, 95, 115, 111, 114, 116]).2).length = 2 := by kernel_rfl
      obtain rfl : n8 = 2 := by omega
      exact fits_fzn_sort h hlen hc hc9 hl
    · have hk : (partsF (findT [102, 122, 110, 95, 105, 110, 118, 101, 114, 115, 101]).2).length = 2 := by kernel_rfl
      obtain rfl : n8 = 2 := by omega
      exact fits_fzn_inverse h hlen hc hc9 hl
    · have hk : (partsF (findT [102, 122, 110, 95, 100, 105, 115, 106, 117, 110, 99, 116, 105, 118, 101]).2).length = 2 := by kernel_rfl
      obtain rfl : n8 = 2 := by omega
      exact fits_fzn_disjunctive h hlen hc hc9 hl
    · have hk : (partsF (findT [102, 122, 110, 95, 100, 105, 102, 102, 110]).2).length = 4 := by kernel_rfl
      obtain rfl : n8 = 4 := by omega
      exact fits_fzn_diffn h hlen hc hc9 hl
    · have hk : (partsF (findT [102, 122, 110, 95, 103, 108, 111, 98, 97, 108, 95, 99, 97, 114, 100, 105, 110, 97, 108, 105, 116, 121]).2).length = 3 := by kernel_rfl
      obtain rfl : n8 = 3 := by omega
      exact fits_fzn_global_cardinality h hlen hc hc9 hl
    · have hk : (partsF (findT [102, 122, 110, 95, 103, 108, 111, 98, 97, 108, 95, 99, 97, 114, 100, 105, 110, 97, 108, 105, 116, 121, 95, 99, 108, 111, 115, 101, 100]).2).length = 3 := by kernel_rfl
      obtain rfl : n8 = 3 := by omega
      exact fits_fzn_global_cardinality_closed h hlen hc hc9 hl
    · have hk : (partsF (findT [102, 122, 110, 95, 109, 97, 120, 105, 109, 117, 109, 95, 105, 110, 116]).2).length = 2 := by kernel_rfl
      obtain rfl : n8 = 2 := by omega
      exact fits_fzn_maximum_int h hlen hc hc9 hl
    · have hk : (partsF (findT [102, 122, 110, 95, 109, 105, 110, 105, 109, 117, 109, 95, 105, 110, 116]).2).length = 2 := by kernel_rfl
      obtain rfl : n8 = 2 := by omega
      exact fits_fzn_minimum_int h hlen hc hc9 hl
    · have hk : (partsF (findT [102, 122, 110, 95, 116, 97, 98, 108, 101, 95, 105, 110, 116]).2).length = 2 := by kernel_rfl
      obtain rfl : n8 = 2 := by omega
      exact fits_fzn_table_int h hlen hc hc9 hl
    · have hk : (partsF (findT [102, 122, 110, 95, 114, 101, 103, 117, 108, 97, 114]).2).length = 6 := by kernel_rfl
      obtain rfl : n8 = 6 := by omega
      have hps : partsF (findT [102, 122, 110, 95, 114, 101, 103, 117, 108, 97, 114]).2 = [[97, 73], [105], [105], [97, 105], [105], [115]] := by kernel_rfl
      rw [hps] at hsh
      have one : ∀ (i : Nat) p, i < ags.length → ([[97, 73], [105], [105], [97, 105], [105], [115]] : List (List UInt8))[i]? = some p → Lib.hasPrefix p [97] = false → (agAt ags i).l.length = 1 := fun i p hi hp hf => by
        have := hsh i _ p (agAt_some hi) hp
        rw [shapedB, hf] at this
        simpa using (by simpa using this : _ ∧ _).2
      exact fits_fzn_regular h hlen hc hc9 hl (one 1 [105] (by omega) rfl (by kernel_rfl)) (one 2 [105] (by omega) rfl (by kernel_rfl)) (one 4 [105] (by omega) rfl (by kernel_rfl))
    · have hk : (partsF (findT [102, 122, 110, 95, 99, 117, 109, 117, 108, 97, 116, 105, 118, 101]).2).length = 4 := by kernel_rfl
      obtain rfl : n8 = 4 := by omega
      exact fits_fzn_cumulative h hlen hc hc9 hl
    · have hk : (partsF (findT [102, 122, 110, 95, 98, 105, 110, 95, 112, 97, 99, 107, 105, 110, 103]).2).length = 3 := by kernel_rfl
      obtain rfl : n8 = 3 := by omega
      exact fits_fzn_bin_packing h hlen hc hc9 hl
    · have hk : (partsF (findT [102, 122, 110, 95, 98, 105, 110, 95, 112, 97, 99, 107, 105, 110, 103, 95, 99, 97, 112, 97]).2).length = 3 := by kernel_rfl
      obtain rfl : n8 = 3 := by omega
      exact fits_fzn_bin_packing_capa h hlen hc hc9 hl
    · have hk : (partsF (findT [102, 122, 110, 95, 98, 105, 110, 95, 112, 97, 99, 107, 105, 110, 103, 95, 108, 111, 97, 100]).2).length = 3 := by kernel_rfl
      obtain rfl : n8 = 3 := by omega
      exact fits_fzn_bin_packing_load h hlen hc hc9 hl
    · have hk : (partsF (findT [102, 122, 110, 95, 107, 110, 97, 112, 115, 97, 99, 107]).2).length = 5 := by kernel_rfl
      obtain rfl : n8 = 5 := by omega
      exact fits_fzn_knapsack h hlen hc hc9 hl
/-- May a term stand at a letter? -/
def takesP (bs : List Bool) (c : List UInt8) (t : Tm) : Bool :=
  if c = [105] then takesB isSB [] false (-1000000000) 1000000000 t else
  if c = [98] then takesB isSB [] false 0 1 t else
  if c = [115] then takesB isSB [] true 0 0 t else
  if c = [73] then takesB isSB bs false (-1000000) 1000000 t else
  if c = [66] then takesB isSB bs false 0 1 t else takesB isSB bs true 0 0 t
def placeV (vs : Value) (c : List UInt8) : Value :=
  if c = [105] then .agg #[.slice none 0 0, .bool false, .int .i64 (-1000000000), .int .i64 1000000000] else
  if c = [98] then .agg #[.slice none 0 0, .bool false, .int .i64 0, .int .i64 1] else
  if c = [115] then .agg #[.slice none 0 0, .bool true, .int .i64 0, .int .i64 0] else
  if c = [73] then .agg #[vs, .bool false, .int .i64 (-1000000), .int .i64 1000000] else
  if c = [66] then .agg #[vs, .bool false, .int .i64 0, .int .i64 1] else .agg #[vs, .bool true, .int .i64 0, .int .i64 0]
theorem place_any (c : List UInt8) (hc : c ∈ six) (a : Option Addr) (n k : Nat) (W : World) : Calls Tryz.prog 70 #[.string ⟨c.toArray⟩, .slice a n k] W fun e w' => e = .returned (placeV (.slice a n k) c) ∧ Below W.heap.size W w' := by
  simp only [six, List.mem_cons, List.mem_nil_iff, or_false] at hc
  rcases hc with rfl | rfl | rfl | rfl | rfl | rfl
  · exact place_i a n k W
  · exact place_b a n k W
  · exact place_s a n k W
  · exact place_I a n k W
  · exact place_B a n k W
  · exact place_S a n k W
theorem takes_any {B : Nat} {W : World} {a : Option Addr} {n c : Nat} {bs : List Bool} (hb : Sb W (.slice a n c) bs) (hn : bs.length = n) (st : Bool) (lo hi : Int) (t : Tm) (sa : Option Addr) (sc : Nat) (hs : Si B W (.slice sa t.s.length sc) t.s) (hz : t.s.length ≤ 17592186043904) :
    Calls Tryz.prog 72 #[.agg #[.slice a n c, .bool st, .int .i64 lo, .int .i64 hi], .agg #[.int .i64 t.v, .bool t.set, .int .i64 t.n, .slice sa t.s.length sc]] W fun e w' => e = .returned (.bool (takesB isSB bs st lo hi t)) ∧ Below W.heap.size W w' := by
  by_cases hv : t.v = -1
  · cases st with
    | true =>
      rw [show takesB isSB bs true lo hi t = (t.set && (decide (t.n = 0) && isSB t.s)) by simp [takesB, hv]]
      exact takes_set _ lo hi t (isSB t.s) sa sc W hv (fun X hX => isSet103 (hs.below hX) hz)
    | false =>
      rw [show takesB isSB bs false lo hi t = (!t.set && (decide (t.s.length = 0) && (decide (lo ≤ t.n) && decide (t.n ≤ hi)))) by simp [takesB, hv]]
      exact takes_int _ lo hi t sa sc W hv
  · rw [show takesB isSB bs st lo hi t = (varB bs st t.v && zeroB t) by simp [takesB, hv]]
    exact takes_var a n c bs st lo hi t sa sc W hb hn hv
theorem takesP_any {B : Nat} {W : World} {a : Option Addr} {n c : Nat} {bs : List Bool} (hb : Sb W (.slice a n c) bs) (hn : bs.length = n) (l : List UInt8) (hl : l ∈ six) (t : Tm) (sa : Option Addr) (sc : Nat) (hs : Si B W (.slice sa t.s.length sc) t.s) (hz : t.s.length ≤ 17592186043904) :
    Calls Tryz.prog 72 #[placeV (.slice a n c) l, .agg #[.int .i64 t.v, .bool t.set, .int .i64 t.n, .slice sa t.s.length sc]] W fun e w' => e = .returned (.bool (takesP bs l t)) ∧ Below W.heap.size W w' := by
  have h0 : Sb W (.slice none 0 0) [] := ⟨none, 0, rfl, fun h => absurd h (by simp)⟩
  simp only [six, List.mem_cons, List.mem_nil_iff, or_false] at hl
  rcases hl with rfl | rfl | rfl | rfl | rfl | rfl
  · exact takes_any h0 rfl false _ _ t sa sc hs hz
  · exact takes_any h0 rfl false _ _ t sa sc hs hz
  · exact takes_any h0 rfl true _ _ t sa sc hs hz
  · exact takes_any hb hn false _ _ t sa sc hs hz
  · exact takes_any hb hn false _ _ t sa sc hs hz
  · exact takes_any hb hn true _ _ t sa sc hs hz
def partTk (bs : List Bool) (parts : List (List UInt8)) (k : Nat) (t : Tm) : Bool := match parts[k]? with
  | some p => takesP bs (Lib.trimPrefix p [97]) t
  | none => true
/-- What Right answers of a constraint. -/
def rightB (nm : List UInt8) (ags : List Ag) (bs : List Bool) : Int :=
  if (findT nm).2 = [] then 51 else rightV (eqB ags (partsF (findT nm).2)) (ags.any longB) (tkL (partTk bs (partsF (findT nm).2)) ags ags.length) (fitsB nm ags)

set_option maxRecDepth 100000 in
set_option maxHeartbeats 4000000 in
theorem right_none {W : World} (nm : List UInt8) (a8 : Option Addr) (n8 c8 : Nat) (a9 : Option Addr) (n9 c9 : Nat) (hM : MaxL W) (hF : (findT nm).2 = []) :
    Calls Tryz.prog 18 #[.agg #[.string ⟨nm.toArray⟩, .slice a8 n8 c8], .slice a9 n9 c9] W fun e w' => e = .returned (.int .i64 51) ∧ Below W.heap.size W w' := by
  have hbA : Below W.heap.size W (W.alloc (Obj.cells #[.string ⟨nm.toArray⟩, .slice a8 n8 c8] 32)) := (Below.refl _ W).alloc (Nat.le_refl _) _
  have HBA : Hid _ := hbA
  have kF := form_any nm _ (hM.below hbA hM.1)
  rw [hF] at kF
  clear hM hbA
  go_enter Tryz.func18, Tryz.ntmps18
  go_wp2_with fail
  refine kF.mono ?_
  clear kF
  rintro e w1 ⟨rfl, hb1⟩
  have HB1 : Hid (Below W.heap.size W w1) := HBA.out.trans (hb1.mono (by simp))
  clear hb1
  go_wp2
  go_ret
  exact ⟨rfl, HB1.out⟩
theorem right_any {B : Nat} {W : World} (nm : List UInt8) {a8 : Option Addr} {n8 c8 : Nat} {a9 : Option Addr} {n9 c9 : Nat} {ags : List Ag} {bs : List Bool} (hM : MaxL W) (h : Sa B W (.slice a8 n8 c8) ags) (hlen : ags.length = n8) (hc : n8 ≤ c8) (hc9 : c8 ≤ 9223372036854775807) (hb : Sb W (.slice a9 n9 c9) bs) (hbn : bs.length = n9)
    (hn : n8 ≤ 4398046510976) (hl : ∀ g ∈ ags, g.l.length ≤ 4398046510976) (hs : ∀ g ∈ ags, ∀ t ∈ g.l, t.s.length ≤ 17592186043904) :
    Calls Tryz.prog 18 #[.agg #[.string ⟨nm.toArray⟩, .slice a8 n8 c8], .slice a9 n9 c9] W fun e w' => e = .returned (.int .i64 (rightB nm ags bs)) ∧ Below W.heap.size W w' := by
  by_cases hF : (findT nm).2 = []
  · rw [show rightB nm ags bs = 51 by simp [rightB, hF]]
    exact right_none nm a8 n8 c8 a9 n9 c9 hM hF
  · obtain ⟨hsix, hp100, hf100, _⟩ := find_ok nm hF
    rw [show rightB nm ags bs = rightV (eqB ags (partsF (findT nm).2)) (ags.any longB) (tkL (partTk bs (partsF (findT nm).2)) ags ags.length) (fitsB nm ags) by simp [rightB, hF]]
    subst hlen
    refine right_walk nm a8 ags.length c8 a9 n9 c9 _ _ _ _ hM hF (by omega) ?_ ?_ ?_ ?_
    · intro X a n hX hss hn'
      subst hn'
      exact equalG (h.below hX) hss hn hl
    · intro _ X hX
      exact containsG (h.below hX) rfl hn hl
    · intro he _ X a n hX hss hn'
      subst hn'
      obtain ⟨hpl, _⟩ := eq_len he
      have := allTaken_any (vs := .slice a9 n9 c9) (fun k => match (partsF (findT nm).2)[k]? with | some p => placeV (.slice a9 n9 c9) (Lib.trimPrefix p [97]) | none => undef) (partTk bs (partsF (findT nm).2)) (h.below hX) (a9 := a) (c9 := (partsF (findT nm).2).length) (by rw [hpl]; exact hss) rfl hpl.symm hn hl ?_ ?_
      · rw [hpl] at this ⊢
        exact this
      · intro k part Y hk hY
        simp only [hk]
        exact place_any _ (hsix part (List.mem_of_getElem? hk)) a9 n9 c9 Y
      · intro k g t a' c' Y hk ht hsi hY
        obtain ⟨p, hp⟩ : ∃ p, (partsF (findT nm).2)[k]? = some p := ⟨_, List.getElem?_eq_getElem (by have := (List.getElem?_eq_some_iff.1 hk).1; omega)⟩
        simp only [partTk, hp]
        exact takesP_any ((hb.below hX).below hY) hbn _ (hsix p (List.mem_of_getElem? hp)) t a' c' hsi (hs g (List.mem_of_getElem? hk) t ht)
    · intro he h2 _ X hX
      exact fits_any nm hF (h.below hX) rfl hc hc9 he h2
end Go.Proofs.YtpgecdhieakilaaGreatDoor

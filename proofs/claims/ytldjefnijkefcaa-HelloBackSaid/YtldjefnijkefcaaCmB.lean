/- Texts as lists of bytes: one behind the other, cut. Plain mathematics: it imports nothing of the program. -/
namespace Go.Proofs.Ytldjefnijkefcaa.Cm
theorem bytes_eq {a b : ByteArray} (h : a.data.toList = b.data.toList) : a = b := ByteArray.ext (Array.toList_inj.1 h)
theorem len_list (a : ByteArray) : a.data.toList.length = a.size := Array.length_toList
theorem ext_list (s : ByteArray) (i j : Nat) : (s.extract i j).data.toList = (s.data.toList.drop i).take (j - i) := by
  rw [ByteArray.data_extract, Array.toList_extract]
theorem app_list (a b : ByteArray) : (a ++ b).data.toList = a.data.toList ++ b.data.toList := by rw [ByteArray.data_append, Array.toList_append]
theorem app_assoc (a b c : ByteArray) : (a ++ b) ++ c = a ++ (b ++ c) := by
  apply bytes_eq
  rw [app_list, app_list, app_list, app_list, List.append_assoc]
theorem ext_app (a r : ByteArray) : (a ++ r).extract 0 a.size = a := by
  apply bytes_eq
  rw [ext_list, app_list, List.drop_zero, Nat.sub_zero, List.take_append_of_le_length (by rw [len_list]; omega), List.take_of_length_le (by rw [len_list]; omega)]
theorem ext_mid (a b r : ByteArray) : (a ++ (b ++ r)).extract a.size (a.size + b.size) = b := by
  apply bytes_eq
  rw [ext_list, app_list, app_list, List.drop_append_of_le_length (by rw [len_list]; omega), List.drop_of_length_le (by rw [len_list]; omega), List.nil_append, Nat.add_sub_cancel_left, List.take_append_of_le_length (by rw [len_list]; omega), List.take_of_length_le (by rw [len_list]; omega)]
theorem ext_size (s : ByteArray) (m : Nat) (h : m ≤ s.size) : (s.extract 0 m).size = m := by rw [ByteArray.size_extract]; omega
end Go.Proofs.Ytldjefnijkefcaa.Cm
